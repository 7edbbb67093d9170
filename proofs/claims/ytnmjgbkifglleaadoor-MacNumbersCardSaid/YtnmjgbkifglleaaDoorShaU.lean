/-
  Rows of words that grow; the document's root.
-/
import Derived.Test.YtnmjgbkifglleaaDoorShaT
namespace Go.Proofs.YtnmjgbkifglleaaDoor.sha
open Go.RowKit Go.Proofs.YtnmjgbkifglleaaDoor.mem
set_option linter.unusedVariables false
theorem vq_append (a b : List Nat) : vq (a ++ b) = vq a ++ vq b := by simp [vq]
theorem vq_one (l : List Nat) : ∀ u ∈ vq l, u.oneCell' = true := by
  intro u hu
  simp only [vq, List.mem_map] at hu
  obtain ⟨x, -, rfl⟩ := hu
  rfl
/-- A row of words that the call has made. -/
structure Aq (w0 : World) (v : Value) (z : List Nat) (W : World) : Prop where
  new : New w0 W
  own : W.ownsRow w0.heap.size 40 1 v z.length (vq z)
theorem Aq.drew {w0 W : World} {v : Value} {z : List Nat} (h : Aq w0 v z W) : Aq w0 v z W.drew := ⟨Below.drew h.new, h.own⟩
theorem Aq.keep {w0 W W' : World} {v : Value} {z : List Nat} (h : Aq w0 v z W) (hn : New W W') : Aq w0 v z W' := ⟨h.new.then hn, own_new h.own hn⟩
theorem Aq.reads {w0 w : World} {v : Value} {z : List Nat} (h : Aq w0 v z w) : ∃ A c, v = .slice A z.length c ∧ Reads w w.heap.size 1 A z.length (vq z) := by
  obtain ⟨A, c, rfl, _, _, hr⟩ := own_len h.own
  exact ⟨A, c, rfl, hr⟩
theorem Aq.made (w0 W : World) (hn : New w0 W) (n : Nat) (hl : n ≤ 1000) : Aq w0 (.slice (some ⟨W.heap.size, 0, none⟩) n n) (List.replicate n 0) (W.alloc (.cells (qrow n) 40)) := by
  refine ⟨hn.alloc hn.size _, ?_⟩
  rw [qrow_eq, List.length_replicate]
  have h := World.ownsRow_lit (e := 40) (base := w0.heap.size) (size := 1) W (vq (List.replicate n 0)).toArray n hn.size (by unfold maxLen; omega) (by simp [vq])
  simpa using h
theorem step_aq {ops : Array Oper} {o : Oper} {a : Act} {K : Act → World → Prop} {Q : Exit → Act → World → Prop} {E : Prop} {w : World} (hgd : o.guard = none) (s x : Operand)
    (ho : o.op = .call { callee := .builtin .append, args := #[s, x], argTypes := #[42, 42] })
    {w0 : World} {v : Value} {z l : List Nat} {A : Option Addr} {c : Nat} (h : Aq w0 v z w) (hs : a.eval s = v) (hx : a.eval x = .slice A l.length c) (hr : Reads w w.heap.size 1 A l.length (vq l)) (hb : z.length + l.length ≤ 1000000)
    (hK : ∀ v' w', Aq w0 v' (z ++ l) w' → K (a.put o.dst v') w') :
    if Region.wanted o (yielded ops a.tmps) = true then Oper.wp Tryd.prog o a w K Q else E := by
  obtain ⟨i0, hi, hz0, hz1, hz2⟩ := info_parts quad_inf
  refine step_append_any w hgd s x 42 ho w0.heap.size 40 i0 _ 1 8 Tryd.underlying42 hi hz0 hz1 hz2 rfl (by omega) v _ _ hs h.own _ A l.length c (vq l) hx hr (vq_one _) (by unfold maxLen; omega) (by omega) h.new.size ?_
  intro v' w' hown hg _
  refine hK v' w' ⟨h.new.grown hg h.new.size (fun k hk => (h.own.lt k hk).1), ?_⟩
  rw [vq_append, List.length_append]
  exact hown
theorem wpl_aq {ops : Array Oper} {rest : List Oper} {o : Oper} {a : Act} {Q : Exit → Act → World → Prop} {w : World} (hgd : o.guard = none) (s x : Operand)
    (ho : o.op = .call { callee := .builtin .append, args := #[s, x], argTypes := #[42, 42] })
    {w0 : World} {v : Value} {z l : List Nat} {A : Option Addr} {c : Nat} (h : Aq w0 v z w) (hs : a.eval s = v) (hx : a.eval x = .slice A l.length c) (hr : Reads w w.heap.size 1 A l.length (vq l)) (hb : z.length + l.length ≤ 1000000)
    (hK : ∀ v' w', Aq w0 v' (z ++ l) w' → wpList Tryd.prog ops Q rest (a.put o.dst v') w') : wpList Tryd.prog ops Q (o :: rest) a w := by
  obtain ⟨i0, hi, hz0, hz1, hz2⟩ := info_parts quad_inf
  refine wpList_append_any w hgd s x 42 ho w0.heap.size 40 i0 _ 1 8 Tryd.underlying42 hi hz0 hz1 hz2 rfl (by omega) v _ _ hs h.own _ A l.length c (vq l) hx hr (vq_one _) (by unfold maxLen; omega) (by omega) h.new.size ?_
  intro v' w' hown hg _
  refine hK v' w' ⟨h.new.grown hg h.new.size (fun k hk => (h.own.lt k hk).1), ?_⟩
  rw [vq_append, List.length_append]
  exact hown
theorem reads_q1 (W : World) (p : Nat) : Reads (W.alloc (.cells #[.int .u64 (p : Int)] 40)) (W.heap.size + 1) 1 (some ⟨W.heap.size, 0, none⟩) [p].length (vq [p]) := by
  have h : Qf (W.alloc (.cells #[.int .u64 (p : Int)] 40)) W.heap.size [p] := Blk.new W _ _
  have h2 := h.reads
  simpa using h2
theorem rabove_at (A B : Option Addr) (c d n m : Nat) (a b : List Nat) (w : World) (ha : ∀ x ∈ a, x < 4294967296) (hb : ∀ x ∈ b, x < 4294967296) (hn : n = a.length) (hm : m = b.length) (hla : n ≤ 1000) (hba : m ≤ n)
    (hA : Reads w w.heap.size 1 A n (vq a)) (hB : Reads w w.heap.size 1 B m (vq b)) :
    Calls Tryd.prog 67 #[.slice A n c, .slice B m d] w fun e w' => e = .returned (.bool (decide (num b < num a))) ∧ New w w' := by
  subst hn
  subst hm
  exact rabove_any A B c d a b w ha hb hla hba hA hB
set_option maxRecDepth 100000 in
set_option maxHeartbeats 4000000 in
theorem rroot_any (p power : Nat) (w : World) (hp : p ≤ 1000) (h2 : 2 ≤ power) (h3 : power ≤ 3) :
    Calls Tryd.prog 40 #[.int .u64 p, .int .i64 power] w fun e w' => e = .returned (.int .u64 (root p power : Nat)) ∧ New w w' := by
  have hmk : ∀ W : World, (Instr.makeSlice 42 (.int .i64 (power : Int)) (.int .i64 (power : Int))).run Tryd.prog W = .ok (.slice (some ⟨W.heap.size, 0, none⟩) power power) (W.alloc (.cells (qrow power) 40)) := fun W => make_quads power (by omega) _ rfl W
  have hG : Aq w (.slice (some ⟨w.heap.size, 0, none⟩) power power) (List.replicate power 0) ((w.alloc (.cells (qrow power) 40)).alloc (.cells #[.int .u64 (p : Int)] 40)) := (Aq.made w w (new_refl w) power (by omega)).keep (alloc_new _ _)
  have HG := Lib.hid hG
  have HX := Lib.hid (reads_q1 (w.alloc (.cells (qrow power) 40)) p)
  clear hG
  go_enter Tryd.func40, Tryd.ntmps40
  go_wp2_with (first
    | (refine step_aq (w0 := w) (z := List.replicate power 0) (l := [p]) (by rfl) (.tmp 14) (.tmp 16) (by rfl) HG.out (by rfl) (by rfl) (by simpa using HX.out) (by simp; omega) ?_; intro v5 w5 hM5; obtain ⟨A5, c5, rfl, hr5⟩ := hM5.reads; have HM5 := Lib.hid hM5)
    | (at_builtin; refine wpl_aq (w0 := w) (z := List.replicate power 0) (l := [p]) rfl (.tmp 14) (.tmp 16) rfl HG.out rfl rfl (by simpa using HX.out) (by simp; omega) ?_; intro v5 w5 hM5; obtain ⟨A5, c5, rfl, hr5⟩ := hM5.reads; have HM5 := Lib.hid hM5))
  go_loopw [6, 7] (fun vx vk wr => ∃ j x : Nat, j ≤ 37 ∧ x < 137438953472 ∧ vk = .int .i64 ((j : Int) - 1) ∧ vx = .int .u64 (x : Int) ∧ New w5 wr ∧ Hid (rootAt p power 37 0 = rootAt p power j x)) (fun _ vk _ => (intOf vk + 1).toNat)
  case atStart => exact ⟨37, 0, by omega, by omega, rfl, rfl, new_refl _, Lib.hid rfl⟩
  case round =>
    obtain ⟨j, x, hj, hx, rfl, rfl, hn, HR⟩ := hrel
    rcases j with _ | j
    · have HV : Hid (root p power = x % 4294967296) := Lib.hid (by unfold root; rw [HR.out]; rfl)
      rw [show ((0 : Nat) : Int) - 1 = -1 from rfl]
      go_wp2
      go_ret
      rw [HV.out]
      exact ⟨ret_int (by rw [show (4294967295 : Int) = ((4294967295 : Nat) : Int) from rfl, u64_and_nat _ _ (by omega) (by omega), show (4294967295 : Nat) = 2 ^ 32 - 1 from rfl, Nat.and_two_pow_sub_one_eq_mod]), HM5.out.new.then hn⟩
    · have hi : ((j + 1 : Nat) : Int) - 1 = (j : Int) := by omega
      rw [hi]
      have hj2 : j < 37 := by omega
      obtain ⟨t, ht⟩ : ∃ t, x ||| 2 ^ j = t := ⟨_, rfl⟩
      have hpj : 2 ^ j < 2 ^ 37 := Nat.pow_lt_pow_right (by decide) hj2
      have htl : t < 137438953472 := by rw [← ht]; exact Nat.or_lt_two_pow (n := 37) hx hpj
      have hor : bits BinOp.or IntKind.u64 (x : Int) (IntKind.u64.wrap ((2 : Int) ^ j)) = (t : Int) := by
        obtain ⟨pj, hq⟩ : ∃ q, 2 ^ j = q := ⟨_, rfl⟩
        have e : (2 : Int) ^ j = ((pj : Nat) : Int) := by rw [← hq]; simp
        rw [hq] at hpj ht
        rw [e, IntWalk.u64_in _ ⟨by omega, by omega⟩, u64_or_nat _ _ (by omega) (by omega), ht]
      obtain ⟨q0, hq0⟩ : ∃ q, t % 4294967296 = q := ⟨_, rfl⟩
      obtain ⟨q1, hq1⟩ : ∃ q, t / 4294967296 = q := ⟨_, rfl⟩
      have hand : bits BinOp.and IntKind.u64 (t : Int) 4294967295 = (q0 : Int) := by
        rw [show (4294967295 : Int) = ((4294967295 : Nat) : Int) from rfl, u64_and_nat _ _ (by omega) (by omega), show (4294967295 : Nat) = 2 ^ 32 - 1 from rfl, Nat.and_two_pow_sub_one_eq_mod, ← hq0]
      have hdiv : (t : Int) / 4294967296 = (q1 : Int) := by omega
      have HT : Hid (num [q0, q1] = t) := Lib.hid (by simp [num]; omega)
      have HQB : Hid (∀ y ∈ [q0, q1], y < 4294967296) := Lib.hid (by intro y hy; simp at hy; omega)
      have HS : Hid (rootAt p power 37 0 = rootAt p power j (if t ^ power ≤ p * 2 ^ (32 * power) then t else x)) := Lib.hid (by rw [HR.out, ← ht]; rfl)
      have HQ : Hid (Qf (wr.alloc (.cells #[.int .u64 (q0 : Int), .int .u64 (q1 : Int)] 40)) wr.heap.size [q0, q1]) := Lib.hid (Blk.new wr _ _)
      have HN1 := Lib.hid (alloc_new wr (.cells #[.int .u64 (q0 : Int), .int .u64 (q1 : Int)] 40))
      clear hq0 hq1 ht hpj
      go_wp2
      obtain ⟨W1, hW1⟩ : ∃ W1 : World, wr.alloc (.cells #[.int .u64 (q0 : Int), .int .u64 (q1 : Int)] 40) = W1 := ⟨_, rfl⟩
      rw [hW1] at HQ HN1 ⊢
      clear hW1
      obtain ⟨gq, hgq⟩ : ∃ g, wr.heap.size = g := ⟨_, rfl⟩
      rw [hgq] at HQ ⊢
      clear hgq
      go_loopw [10, 11] (fun va vi wv => ∃ i : Nat, 1 ≤ i ∧ i ≤ power ∧ vi = .int .i64 (i : Int) ∧ ∃ C cc l, va = .slice C (2 * i) cc ∧ Hid (l.length = 2 * i ∧ (∀ y ∈ l, y < 4294967296) ∧ num l = t ^ i) ∧ Reads wv wv.heap.size 1 C (2 * i) (vq l) ∧ New W1 wv) (fun _ vi _ => power - (intOf vi).toNat)
      case atStart => exact ⟨1, Nat.le_refl _, by omega, rfl, _, _, [q0, q1], rfl, Lib.hid ⟨rfl, HQB.out, by rw [HT.out, Nat.pow_one]⟩, HQ.out.reads, new_refl _⟩
      case round =>
        obtain ⟨i, hi1, hip, rfl, C, cc, l, rfl, HL, hC, hnv⟩ := hrel
        by_cases hlt : i < power
        · have HCall := Lib.hid (rtimes_any C (some ⟨gq, 0, none⟩) cc 2 (2 * i) 2 l [q0, q1] wr HL.out.2.1 HQB.out HL.out.1.symm rfl (by omega) (by omega) (by omega) hC (HQ.out.reads.new hnv))
          go_wp2_with (go_at_call 66; (with_reducible refine HCall.out.mono ?_); rintro e w6 ⟨o, rfl, hT6, ho6⟩)
          go_roundw
          case rel => exact ⟨i + 1, by omega, by omega, by go_num, _, _, o, rfl, Lib.hid ⟨hT6.len, hT6.lt, by rw [ho6, HL.out.2.2, HT.out, Nat.pow_succ]⟩, by have := hT6.q.reads; rw [hT6.len] at this; exact this, hnv.then hT6.new⟩
          case measure => simp [intOf]; omega
        · obtain rfl : i = power := by omega
          have hlg : (List.replicate i 0 ++ [p]).length = i + 1 := by simp
          have hng : num (List.replicate i 0 ++ [p]) = p * 2 ^ (32 * i) := by
            rw [num_append, num_zeros, List.length_replicate, Nat.pow_mul, Nat.zero_add, Nat.mul_comm]; simp [num]
          have hr6 : Reads wr wr.heap.size 1 A5 (i + 1) (vq (List.replicate i 0 ++ [p])) := by
            have := (hr5.new (hn.then (HN1.out.then hnv)))
            rw [hlg] at this
            exact this
          have HCall := rabove_at C A5 cc c5 (2 * i) (i + 1) l (List.replicate i 0 ++ [p]) wr HL.out.2.1 (by intro y hy; simp at hy; omega) HL.out.1.symm hlg.symm (by omega) (by omega) hC hr6
          rw [hng, HL.out.2.2] at HCall
          have hnn : New w5 wr := hn.then (HN1.out.then hnv)
          by_cases hle : t ^ i ≤ p * 2 ^ (32 * i)
          · rw [decide_eq_false (by omega)] at HCall
            have HC := Lib.hid HCall
            have HS2 : Hid (rootAt p i 37 0 = rootAt p i j t) := Lib.hid (by rw [HS.out, if_pos hle])
            clear HCall hle hng
            go_wp2_with (go_at_call 67; (with_reducible refine HC.out.mono ?_); rintro e w7 ⟨rfl, hn7⟩)
            go_roundw
            case rel => exact ⟨j, t, by omega, htl, by go_num, rfl, hnn.then hn7, HS2⟩
            case measure => simp [intOf]
          · rw [decide_eq_true (by omega)] at HCall
            have HC := Lib.hid HCall
            have HS2 : Hid (rootAt p i 37 0 = rootAt p i j x) := Lib.hid (by rw [HS.out, if_neg hle])
            clear HCall hle hng
            go_wp2_with (go_at_call 67; (with_reducible refine HC.out.mono ?_); rintro e w7 ⟨rfl, hn7⟩)
            go_roundw
            case rel => exact ⟨j, x, by omega, hx, by go_num, rfl, hnn.then hn7, HS2⟩
            case measure => simp [intOf]
end Go.Proofs.YtnmjgbkifglleaaDoor.sha
