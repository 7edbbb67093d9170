/-
  WireNumbers, walked.
-/
import Derived.Test.YtpkiopijfhkagaaGreatDoorReads
import Derived.Test.YtpkiopijfhkagaaGreatDoorPuts
import Derived.Test.YtpkiopijfhkagaaGreatDoorTwo
import Derived.Laws.CopyOwn
import Derived.RangeFuncBox
namespace Go.Proofs.YtpkiopijfhkagaaGreatDoor.laws
open Go.RowKit Go.Proofs.YtpkiopijfhkagaaGreatDoor.mem Go.Proofs.YtpkiopijfhkagaaGreatDoor.kit Go.Proofs.YtpkiopijfhkagaaGreatDoor.wire Go.Proofs.YtpkiopijfhkagaaGreatDoor.rd
set_option linter.unusedVariables false

def nums : List Int := [-9223372036854775808, -1, 0, 1, 2, 3, 4, 5, 6, 255, 256, 2147483648, 4294967296, 9223372036854775807]
def numC : Array Value := #[.int .i64 (-9223372036854775808), .int .i64 (-1), .int .i64 0, .int .i64 1, .int .i64 2, .int .i64 3, .int .i64 4, .int .i64 5, .int .i64 6, .int .i64 255, .int .i64 256, .int .i64 2147483648, .int .i64 4294967296, .int .i64 9223372036854775807]
theorem numC_at : ∀ k : Nat, k < 14 → ∃ z : Int, numC[k]? = some (.int .i64 z) ∧ -9223372036854775808 ≤ z ∧ z ≤ 9223372036854775807
  | 0, _ => ⟨_, rfl, by omega, by omega⟩
  | 1, _ => ⟨_, rfl, by omega, by omega⟩
  | 2, _ => ⟨_, rfl, by omega, by omega⟩
  | 3, _ => ⟨_, rfl, by omega, by omega⟩
  | 4, _ => ⟨_, rfl, by omega, by omega⟩
  | 5, _ => ⟨_, rfl, by omega, by omega⟩
  | 6, _ => ⟨_, rfl, by omega, by omega⟩
  | 7, _ => ⟨_, rfl, by omega, by omega⟩
  | 8, _ => ⟨_, rfl, by omega, by omega⟩
  | 9, _ => ⟨_, rfl, by omega, by omega⟩
  | 10, _ => ⟨_, rfl, by omega, by omega⟩
  | 11, _ => ⟨_, rfl, by omega, by omega⟩
  | 12, _ => ⟨_, rfl, by omega, by omega⟩
  | 13, _ => ⟨_, rfl, by omega, by omega⟩
  | k + 14, h => absurd h (by omega)

/-- A byte row of the call's own, of a length that is known. -/
def Ow (B : Nat) (n : Nat) (v : Value) (w : World) : Prop := ∃ l : List UInt8, l.length = n ∧ w.ownsRow B 5 1 v n (vb l)
theorem Ow.keep {B n : Nat} {v : Value} {w w' : World} (h : Ow B n v w) (hn : New w w') : Ow B n v w' := by obtain ⟨l, hl, ho⟩ := h; exact ⟨l, hl, own_new ho hn⟩

theorem num8 (n : Int) (w : World) : Calls Tryz.prog 4 #[.int .i64 n] w fun e w' => ∃ A c, e = .returned (.slice A 8 c) ∧ 8 ≤ c ∧ Ow w.heap.size 8 (.slice A 8 c) w' ∧ New w w' :=
  (rwire.number_any n w).mono fun e w' k => by
    obtain ⟨A, c, he, ho, hn⟩ := k
    rw [numB_length] at he ho
    obtain ⟨⟨h1, h2⟩, _, _⟩ := own_typed ho
    exact ⟨A, c, he, h1, ⟨_, numB_length n, ho⟩, hn⟩
theorem ent_n (term kind version server : Int) (good : Bool) (A : Option Addr) (m n c : Nat) (l : List UInt8) (w : World) (hm : m = l.length) (hn : n = 48 + m) (k0 : 0 ≤ kind) (k1 : kind ≤ 255) (hl : l.length ≤ 1000) (hA : Reads w w.heap.size 1 A m (vb l)) :
    Calls Tryz.prog 7 #[.agg #[.int .i64 term, .int .u8 kind, .int .i64 version, .int .i64 server, .bool good, .slice A m c]] w fun e w' => ∃ g k, e = .returned (.slice (some ⟨g, 0, none⟩) n k) ∧ n ≤ k ∧ k ≤ maxLen ∧ Ow w.heap.size n (.slice (some ⟨g, 0, none⟩) n k) w' ∧ New w w' := by
  subst hm
  exact (rwire.entry_any term kind version server good A c l w k0 k1 (by omega) hA).mono fun e w' k => by
    obtain ⟨A1, c1, he, ho, hnw⟩ := k
    have hlen : (entB term kind version server good l).length = n := by rw [hn]; simp [entB, lenB, numB_length]; omega
    rw [hlen] at he ho
    obtain ⟨⟨h1, h2⟩, _, _⟩ := own_typed ho
    obtain ⟨n', rfl⟩ : ∃ n', n = n' + 1 := ⟨n - 1, by omega⟩
    obtain ⟨g, cap, hv⟩ := ownsRow_succ ho
    injection hv with e1 e2 e3
    subst e1
    exact ⟨g, c1, he, h1, h2, ⟨_, hlen, ho⟩, hnw⟩

/-- What is read of a list of bytes, and a list of numbers. -/
theorem reads_call (T : TypeId) (q : Addr) (A0 A1 : Option Addr) (n c0 m c1 : Nat) (zs : List Int) (w : World) (hE : ErrAt w T q) (hb : ∃ l : List UInt8, l.length = n ∧ Reads w w.heap.size 1 A0 n (vb l)) (hm : m = zs.length) (hnl : n ≤ 1000) (hml : m ≤ 1000)
    (hB : Reads w w.heap.size 1 A1 m (zs.map (Value.int .i64))) (hz : ∀ z ∈ zs, 0 ≤ z ∧ z ≤ 2) :
    Calls Tryz.prog 6 #[.slice A0 n c0, .slice A1 m c1] w fun e w' => e = .returned (.bool true) ∧ New w w' := by
  obtain ⟨l, hl, hA⟩ := hb
  exact WireReads_any T q A0 A1 n c0 m c1 l zs w hE hl.symm hm (by unfold maxLen; omega) (by unfold maxLen; omega) hA hB (fun i h => by have := hz _ (List.getElem_mem h); omega)
theorem Ow.reads {B n : Nat} {A : Option Addr} {c : Nat} {w : World} (h : Ow B n (.slice A n c) w) : ∃ l : List UInt8, l.length = n ∧ Reads w w.heap.size 1 A n (vb l) := by
  obtain ⟨l, hl, ho⟩ := h
  exact ⟨l, hl, (own_typed ho).2.1⟩
theorem Ow.cutTo {B n k : Nat} {g c : Nat} {w : World} (h : Ow B n (.slice (some ⟨g, 0, none⟩) n c) w) (hk : k ≤ n) : ∃ l : List UInt8, l.length = k ∧ Reads w w.heap.size 1 (some ⟨g, 0, none⟩) k (vb l) := by
  obtain ⟨l, hl, hr⟩ := h.reads
  refine ⟨l.take k, by rw [List.length_take]; omega, by simp [vb]; omega, fun h0 => ?_⟩
  obtain ⟨ad, e, hb, hc⟩ := hr.2 (by omega)
  refine ⟨ad, e, hb, fun j u hu => hc j u ?_⟩
  have e2 : vb (l.take k) = (vb l).take k := by simp [vb]
  rw [e2, List.getElem?_take] at hu
  split at hu
  · exact hu
  · cases hu
theorem Ow.cutFrom {B n k : Nat} {g c : Nat} {w : World} (h : Ow B n (.slice (some ⟨g, 0, none⟩) n c) w) (hk : k ≤ n) : ∃ l : List UInt8, l.length = n - k ∧ Reads w w.heap.size 1 (some ⟨g, k, none⟩) (n - k) (vb l) := by
  obtain ⟨l, hl, hr⟩ := h.reads
  refine ⟨l.drop k, by rw [List.length_drop]; omega, by simp [vb]; omega, fun h0 => ?_⟩
  obtain ⟨ad, e, hb, hc⟩ := hr.2 (by omega)
  injection e with e
  subst e
  refine ⟨_, rfl, hb, fun j u hu => ?_⟩
  have e2 : vb (l.drop k) = (vb l).drop k := by simp [vb]
  rw [e2, List.getElem?_drop] at hu
  have := hc _ _ hu
  rw [Addr.add_lit] at this ⊢
  rwa [Nat.zero_add] at this
theorem splice_app {α : Type} (X R cs : List α) (off : Nat) (h : off + cs.length ≤ X.length) : splice (X ++ R) off cs = splice X off cs ++ R := by
  unfold splice
  rw [List.take_append_of_le_length (by omega), List.drop_append_of_le_length (by omega)]
  simp
/-- Behind a copy into it. -/
theorem Ow.copied {B n g c off : Nat} {w w' : World} {cur : List Value} {b : List UInt8} (hl : ∃ l : List UInt8, l.length = n ∧ cur.take n = vb l) (hg : w'.heap[g]? = some (.cells (splice cur off (vb b)).toArray 5 (0, 0))) (hB : B ≤ g) (hc : cur.length = c) (hnc : n ≤ c) (hcm : c ≤ maxLen) (hf : off + b.length ≤ n) :
    Ow B n (.slice (some ⟨g, 0, none⟩) n c) w' := by
  obtain ⟨l, hl, ht⟩ := hl
  have e1 : cur = vb l ++ cur.drop n := by rw [← ht, List.take_append_drop]
  have hb : (vb b).length = b.length := vb_length b
  have hll : (vb l).length = n := by rw [vb_length, hl]
  have e2 : splice cur off (vb b) = splice (vb l) off (vb b) ++ cur.drop n := by
    conv => lhs; rw [e1]
    exact splice_app _ _ _ _ (by omega)
  have e3 : splice (vb l) off (vb b) = vb (splice l off b) := by simp [splice, vb]
  have hsl : (splice l off b).length = n := by rw [length_splice _ _ _ (by omega), hl]
  refine ⟨splice l off b, hsl, by rw [vb_length, hsl, Nat.mul_one], Or.inr ⟨g, c, _, rfl, hB, hg, hnc, hcm, ?_, ?_⟩⟩
  · rw [List.size_toArray, Nat.mul_one, length_splice _ _ _ (by omega), hc]
  · rw [e2, e3, Nat.mul_one, List.take_append_of_le_length (by rw [vb_length, hsl]; exact Nat.le_refl _), List.take_of_length_le (by rw [vb_length, hsl]; exact Nat.le_refl _)]
theorem Ow.row {B n g c : Nat} {w : World} (h : Ow B n (.slice (some ⟨g, 0, none⟩) n c) w) : B ≤ g ∧ ∃ cur : List Value, w.heap[g]? = some (.cells cur.toArray 5 (0, 0)) ∧ cur.length = c ∧ ∃ l : List UInt8, l.length = n ∧ cur.take n = vb l := by
  obtain ⟨l, hl, ho⟩ := h
  rcases ho.2 with ⟨h', _⟩ | ⟨g', cap', cur, h', hb, hg, hnc, hcm, hcs, htake⟩
  · simp at h'
  · simp only [Value.slice.injEq, Option.some.injEq, Addr.mk.injEq, and_true, true_and] at h'
    obtain ⟨rfl, rfl⟩ := h'
    exact ⟨hb, cur.toList, hg, by simpa using hcs, l, hl, by simpa using htake⟩
theorem wrap64_bnd (n : Int) : -9223372036854775808 ≤ wrap64 n ∧ wrap64 n ≤ 9223372036854775807 := by unfold wrap64; omega
theorem puts_n (T : TypeId) (q : Addr) (n : Int) (A : Option Addr) (m c : Nat) (kk ve se : Int) (go : Bool) (w : World) (n0 : -9223372036854775808 ≤ n) (n1 : n ≤ 9223372036854775807) (hm : m ≤ 1000)
    (hk : 0 ≤ kk ∧ kk ≤ 255) (hv : -9223372036854775808 ≤ ve ∧ ve ≤ 9223372036854775807) (hs : -9223372036854775808 ≤ se ∧ se ≤ 9223372036854775807) (hE : ErrAt w T q) (hb : ∃ l : List UInt8, l.length = m ∧ Reads w w.heap.size 1 A m (vb l)) :
    Calls Tryz.prog 5 #[.int .i64 n, .slice A m c, .agg #[.int .i64 n, .int .u8 kk, .int .i64 ve, .int .i64 se, .bool go, .slice A m c]] w fun e w' => e = .returned (.bool true) ∧ New w w' := by
  obtain ⟨l, rfl, hA⟩ := hb
  exact WirePuts_any T q n A c l ⟨n, kk, ve, se, go, A, c, l⟩ w hE n0 n1 (by unfold maxLen; omega) ⟨⟨n0, n1⟩, hk, hv, hs, by unfold maxLen; show l.length ≤ _; omega⟩ hA hA
theorem byte_size : (Tryz.prog.info? 5).map (·.size) = some 1 := by kernel_rfl
theorem cut_none {w : World} {A : Option Addr} {n : Nat} (h : n = 0) : ∃ l : List UInt8, l.length = n ∧ Reads w w.heap.size 1 A n (vb l) := by
  subst h
  exact ⟨[], rfl, rfl, fun h => absurd h (by omega)⟩
/-- Two rows, one behind the other. -/
theorem two_own {w : World} {B n m : Nat} {v : Value} {l r : List UInt8} (hl : l.length = n) (hr : r.length = m) (h : w.ownsRow B 5 1 v (n + m) (vb l ++ vb r)) : ∃ A c, v = .slice A (n + m) c ∧ Ow B (n + m) (.slice A (n + m) c) w := by
  have e : vb l ++ vb r = vb (l ++ r) := by simp [vb]
  rw [e] at h
  obtain ⟨A, c, rfl, _⟩ := own_len h
  exact ⟨A, c, rfl, l ++ r, by rw [List.length_append]; omega, h⟩
theorem Ow.less {B B' n : Nat} {v : Value} {w : World} (h : Ow B n v w) (hB : B' ≤ B) : Ow B' n v w := by obtain ⟨l, hl, ho⟩ := h; exact ⟨l, hl, own_base ho hB⟩
theorem int_blk_ne {B n g : Nat} {v : Value} {w : World} {cs : Array Value} (h : Ow B n v w) (hb : Blk w g 3 cs) : some g ≠ v.ownBlock := by
  obtain ⟨l, hl, ho⟩ := h
  exact fun e => own_blk_ne ho hb (by decide) e.symm

theorem i64_bnd (n : Int) : -9223372036854775808 ≤ IntKind.i64.wrap n ∧ IntKind.i64.wrap n ≤ 9223372036854775807 := by
  simp only [IntKind.wrap, IntKind.bits, IntKind.signed]
  simp
  split <;> omega
theorem u8_bnd (n : Int) : 0 ≤ IntKind.u8.wrap n ∧ IntKind.u8.wrap n ≤ 255 := by
  simp only [IntKind.wrap, IntKind.bits, IntKind.signed]
  simp
  omega
theorem step_append_two {P : Program} {ops : Array Oper} {o : Oper} {a : Act} {w : World} {K : Act → World → Prop} {Q : Exit → Act → World → Prop} {E : Prop} (hw : Region.wanted o (yielded ops a.tmps) = true) (s x : Operand) (t : TypeId)
    (ho : o.op = .call { callee := .builtin .append, args := #[s, x], argTypes := #[t, t] })
    (base : Nat) (e : TypeId) (i : TypeInfo) (z : Value) (bytes : Nat) (ht : P.underlying t = some (.slice e)) (hi : P.info? e = some i) (hz : i.zero = some z)
    (hsize : i.size = 1) (hby : i.bytes = bytes) (hzs : z.cells.size = 1)
    (v : Value) (n : Nat) (xs : List Value) (hs : a.eval s = v) (hown : w.ownsRow base e 1 v n xs)
    (B : Nat) (A : Option Addr) (m c : Nat) (news : List Value) (hx : a.eval x = .slice A m c) (hr : Reads w B 1 A m news) (h1 : ∀ u ∈ news, u.oneCell' = true)
    (h63 : n + m ≤ maxLen) (hbytes : (n + m) * bytes ≤ 140737488355328) (hbase : base ≤ w.heap.size)
    (h : ∀ v' w', Longer w e base v n m xs news v' w' → K (a.put o.dst v') w') :
    if Region.wanted o (yielded ops a.tmps) = true then Oper.wp P o a w K Q else E := by
  rw [if_pos hw]
  obtain ⟨v', w', hrun, h2⟩ := run_append_two (P := P) w base t o.type e i z bytes ht hi hz hsize hby hzs v n xs hown B A m c news hr h1 h63 hbytes hbase
  unfold Oper.wp execOp
  simp only [ho, resolve, invoke, builtin, Sem.run_bind, Sem.run_pure, Result.andThen_ok, List.map_toArray, List.map_cons, List.map_nil, hs, hx, hrun]
  exact h v' w' h2
/-- Behind an append: the row before it, the row that came of it, an int block. -/
structure Af (W0 : World) (u : Value) (n m : Nat) (v : Value) (w : World) : Prop where
  old : Ow W0.heap.size n u w
  new : ∃ A c, v = .slice A (n + m) c ∧ Ow W0.heap.size (n + m) (.slice A (n + m) c) w
  keep : New W0 w
theorem Af.of {W0 w w' : World} {u v' : Value} {n m : Nat} {l r : List UInt8} (hn : New W0 w) (hl : l.length = n) (hr : r.length = m) (ho : w.ownsRow W0.heap.size 5 1 u n (vb l)) (hlg : Longer w 5 W0.heap.size u n m (vb l) (vb r) v' w') : Af W0 u n m v' w' ∧ ∀ (g : Nat) (cs : Array Value), Blk w g 3 cs → Blk w' g 3 cs := by
  have ht := (Twin.start ho).step hlg
  have hold := ht.old
  rw [List.take_append_of_le_length (by rw [vb_length, hl]; exact Nat.le_refl _), List.take_of_length_le (by rw [vb_length, hl]; exact Nat.le_refl _)] at hold
  obtain ⟨A, c, e, hnew⟩ := two_own hl hr ht.new
  refine ⟨⟨⟨l, hl, hold⟩, ⟨A, c, e, hnew⟩, ((Ch.of_new (S := fun b => u.ownBlock = some b) hn).then ht.ch (fun i _ e => e)).below (Nat.le_refl _) (fun k _ e => (ho.lt k e).1)⟩, fun g cs hb => hb.ch ht.ch (fun e => own_blk_ne ho hb (by decide) e)⟩
end Go.Proofs.YtpkiopijfhkagaaGreatDoor.laws
