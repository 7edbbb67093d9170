/-
  The document's words.
-/
import Derived.Test.YtnmjgbkifglleaaDoorShaW
import Derived.Test.YtnmjgbkifglleaaDoorTwo
import Derived.StillTailTactics
namespace Go.Proofs.YtnmjgbkifglleaaDoor.sha
open Go.RowKit Go.Proofs.YtnmjgbkifglleaaDoor.mem
set_option linter.unusedVariables false
theorem Aq.at_ {w0 W : World} {v : Value} {z : List Nat} (h : Aq w0 v z W) (m : Nat) (hm : z.length = m) (h0 : 0 < m) : ∃ g c, v = .slice (some ⟨g, 0, none⟩) m c ∧ m ≤ c ∧ w0.heap.size ≤ g ∧ g < W.heap.size ∧ ∀ i (hi : i < z.length), W.cell? ⟨g, i, none⟩ = some (.int .u64 (z[i] : Int)) := by
  subst hm
  obtain ⟨A, c, rfl, h1, h2, hr⟩ := own_len h.own
  obtain ⟨g, cap, hv, hB, hlt⟩ := h.own.form h0
  have hA : A = some ⟨g, 0, none⟩ := by injection hv
  subst hA
  obtain ⟨ad, ea, -, hc⟩ := hr.2 h0
  simp only [Option.some.injEq] at ea
  subst ea
  refine ⟨g, c, rfl, h1, hB, hlt, fun i hi => ?_⟩
  have := hc i _ (vq_get z i hi)
  rwa [Addr.add_lit, Nat.zero_add] at this
theorem reads_qx (W : World) (p : Nat) (x : Int) (hx : x = (p : Int)) : Reads (W.alloc (.cells #[.int .u64 x] 40)) (W.alloc (.cells #[.int .u64 x] 40)).heap.size 1 (some ⟨W.heap.size, 0, none⟩) [p].length (vq [p]) := by
  subst hx
  have := reads_q1 W p
  simpa using this
theorem Aq.len {w0 w : World} {v : Value} {z : List Nat} (h : Aq w0 v z w) (m : Nat) (hm : z.length = m) : ∃ A c, v = .slice A m c ∧ (m ≤ c ∧ c ≤ maxLen) ∧ Reads w w.heap.size 1 A m (vq z) := by
  subst hm
  obtain ⟨A, c, rfl, h1, h2, hr⟩ := own_len h.own
  exact ⟨A, c, rfl, ⟨h1, h2⟩, hr⟩
theorem kept_two {w w' : World} {e B n m g c : Nat} {xs news : List Value} {v' : Value} (hl : Go.Proofs.YtnmjgbkifglleaaDoor.kit.Longer w e B (.slice (some ⟨g, 0, none⟩) n c) n m xs news v' w') (hown : w.ownsRow B e 1 (.slice (some ⟨g, 0, none⟩) n c) n xs) : ∀ j u, xs[j]? = some u → w'.cell? ⟨g, j, none⟩ = some u := by
  intro j u hu
  obtain ⟨ho, ⟨A, c', h1, h2, hg⟩ | ⟨h1, hn⟩⟩ := hl
  · injection h1 with h1 _ _
    subst h1
    subst h2
    have := ho.cells (g := g) rfl j u (by rw [List.getElem?_append_left (List.getElem?_eq_some_iff.1 hu).1]; exact hu)
    rwa [Addr.add_lit, Nat.zero_add] at this
  · have := hown.cells (g := g) rfl j u hu
    rw [Addr.add_lit, Nat.zero_add] at this
    exact (hn.cell (p := ⟨g, j, none⟩) (block_lt_of_cell this)).trans this
theorem step_aq2 {ops : Array Oper} {o : Oper} {a : Act} {K : Act → World → Prop} {Q : Exit → Act → World → Prop} {E : Prop} {w : World} (hgd : o.guard = none) (s x : Operand)
    (ho : o.op = .call { callee := .builtin .append, args := #[s, x], argTypes := #[42, 42] })
    {w0 : World} {g d : Nat} {z l : List Nat} {m : Nat} {A : Option Addr} {c : Nat} (h : Aq w0 (.slice (some ⟨g, 0, none⟩) m d) z w) (hm : z.length = m) (hs : a.eval s = .slice (some ⟨g, 0, none⟩) m d) (hx : a.eval x = .slice A l.length c) (hr : Reads w w.heap.size 1 A l.length (vq l)) (hb : m + l.length ≤ 1000000)
    (hK : ∀ v' w', Aq w0 v' (z ++ l) w' → (∀ (i y : Nat), z[i]? = some y → w'.cell? ⟨g, i, none⟩ = some (.int .u64 (y : Int))) → K (a.put o.dst v') w') :
    if Region.wanted o (yielded ops a.tmps) = true then Oper.wp Tryd.prog o a w K Q else E := by
  subst hm
  obtain ⟨i0, hi, hz0, hz1, hz2⟩ := info_parts quad_inf
  have hw : Region.wanted o (yielded ops a.tmps) = true := by simp [Region.wanted, hgd]
  rw [if_pos hw]
  have hown := h.own
  obtain ⟨v', w', hrun, hl⟩ := Go.Proofs.YtnmjgbkifglleaaDoor.kit.run_append_two (P := Tryd.prog) w w0.heap.size 42 o.type 40 i0 _ 8 Tryd.underlying42 hi hz0 hz1 hz2 rfl _ _ _ hown _ A l.length c (vq l) hr (vq_one _) (by unfold maxLen; omega) (by omega) h.new.size
  unfold Oper.wp execOp
  simp only [ho, resolve, invoke, builtin, Sem.run_bind, Sem.run_pure, Result.andThen_ok, List.map_toArray, List.map_cons, List.map_nil, hs, hx, hrun]
  refine hK _ _ ⟨?_, ?_⟩ (fun i y hi => by obtain ⟨h1, rfl⟩ := List.getElem?_eq_some_iff.1 hi; exact kept_two hl hown i _ (vq_get z i h1))
  · rcases hl.2 with ⟨A', c', _, _, hg⟩ | ⟨_, hn⟩
    · exact h.new.grown hg h.new.size (fun k hk => (hown.lt k hk).1)
    · exact New.then h.new hn
  · rw [vq_append, List.length_append]
    exact hl.1
theorem or4q (x0 x1 x2 x3 : Nat) (t0 : x0 < 256) (t1 : x1 < 256) (t2 : x2 < 256) (t3 : x3 < 256) :
    (x0 * 16777216 ||| x1 * 65536 ||| x2 * 256 ||| x3) = ((x0 * 16777216 + x1 * 65536) + (x2 * 256 + x3)) := by
  have e1 : x0 * 16777216 ||| x1 * 65536 = (x0 * 256 + x1) * 65536 := by
    have := Nat.two_pow_add_eq_or_of_lt (i := 8) (b := x1) (by omega) x0
    rw [show x0 * 16777216 = (2 ^ 8 * x0) * 2 ^ 16 by omega, show x1 * 65536 = x1 * 2 ^ 16 by omega, ← Nat.shiftLeft_eq, ← Nat.shiftLeft_eq, ← Nat.shiftLeft_or_distrib, ← this, Nat.shiftLeft_eq]
    omega
  have e2 : (x0 * 256 + x1) * 65536 ||| x2 * 256 = ((x0 * 256 + x1) * 256 + x2) * 256 := by
    have := Nat.two_pow_add_eq_or_of_lt (i := 8) (b := x2) (by omega) (x0 * 256 + x1)
    rw [show (x0 * 256 + x1) * 65536 = (2 ^ 8 * (x0 * 256 + x1)) * 2 ^ 8 by omega, show x2 * 256 = x2 * 2 ^ 8 by omega, ← Nat.shiftLeft_eq, ← Nat.shiftLeft_eq, ← Nat.shiftLeft_or_distrib, ← this, Nat.shiftLeft_eq]
    omega
  have e3 : ((x0 * 256 + x1) * 256 + x2) * 256 ||| x3 = ((x0 * 256 + x1) * 256 + x2) * 256 + x3 := by
    have := Nat.two_pow_add_eq_or_of_lt (i := 8) (b := x3) (by omega) ((x0 * 256 + x1) * 256 + x2)
    rw [Nat.mul_comm _ 256, show (256 : Nat) = 2 ^ 8 from rfl, ← this]
  rw [e1, e2, e3]
  omega
theorem word_val (x0 x1 x2 x3 : Nat) (t0 : x0 < 256) (t1 : x1 < 256) (t2 : x2 < 256) (t3 : x3 < 256) :
    bits BinOp.or IntKind.u64 (bits BinOp.or IntKind.u64 (bits BinOp.or IntKind.u64 (IntKind.u64.wrap (IntKind.u64.wrap (x0 : Int) * 16777216)) (IntKind.u64.wrap (IntKind.u64.wrap (x1 : Int) * 65536))) (IntKind.u64.wrap (IntKind.u64.wrap (x2 : Int) * 256))) (IntKind.u64.wrap (x3 : Int)) =
      (((x0 * 16777216 + x1 * 65536) + (x2 * 256 + x3) : Nat) : Int) := by
  have b01 : x0 * 16777216 ||| x1 * 65536 < 4294967296 := Nat.or_lt_two_pow (n := 32) (by omega) (by omega)
  have b012 : (x0 * 16777216 ||| x1 * 65536) ||| x2 * 256 < 4294967296 := Nat.or_lt_two_pow (n := 32) b01 (by omega)
  have w0 : IntKind.u64.wrap (IntKind.u64.wrap (x0 : Int) * 16777216) = ((x0 * 16777216 : Nat) : Int) := by
    rw [IntWalk.u64_in (x0 : Int) ⟨by omega, by omega⟩, IntWalk.u64_in _ ⟨by omega, by omega⟩]; simp
  have w1 : IntKind.u64.wrap (IntKind.u64.wrap (x1 : Int) * 65536) = ((x1 * 65536 : Nat) : Int) := by
    rw [IntWalk.u64_in (x1 : Int) ⟨by omega, by omega⟩, IntWalk.u64_in _ ⟨by omega, by omega⟩]; simp
  have w2 : IntKind.u64.wrap (IntKind.u64.wrap (x2 : Int) * 256) = ((x2 * 256 : Nat) : Int) := by
    rw [IntWalk.u64_in (x2 : Int) ⟨by omega, by omega⟩, IntWalk.u64_in _ ⟨by omega, by omega⟩]; simp
  rw [w0, w1, w2, IntWalk.u64_in (x3 : Int) ⟨by omega, by omega⟩, u64_or_nat _ _ (by omega) (by omega), u64_or_nat _ _ (by omega) (by omega), u64_or_nat _ _ (by omega) (by omega), or4q _ _ _ _ t0 t1 t2 t3]
theorem xor_q (a b : Nat) (ha : a < 4294967296) (hb : b < 4294967296) : bits BinOp.xor IntKind.u64 (a : Int) (b : Int) = ((a ^^^ b : Nat) : Int) := u64_xor_nat a b (by omega) (by omega)
theorem sg0_q (x : Nat) (h : x < 4294967296) : bits BinOp.xor IntKind.u64 (bits BinOp.xor IntKind.u64 (rotr x 7 : Nat) (rotr x 18 : Nat)) ((x / 8 : Nat) : Int) = ((sg0 x : Nat) : Int) := by
  rw [xor_q _ _ (rotr_lt _ _ h) (rotr_lt _ _ h), xor_q _ _ (xor_lt (rotr_lt _ _ h) (rotr_lt _ _ h)) (by omega)]
  rfl
theorem sg1_q (x : Nat) (h : x < 4294967296) : bits BinOp.xor IntKind.u64 (bits BinOp.xor IntKind.u64 (rotr x 17 : Nat) (rotr x 19 : Nat)) ((x / 1024 : Nat) : Int) = ((sg1 x : Nat) : Int) := by
  rw [xor_q _ _ (rotr_lt _ _ h) (rotr_lt _ _ h), xor_q _ _ (xor_lt (rotr_lt _ _ h) (rotr_lt _ _ h)) (by omega)]
  rfl
theorem and_q (s : Nat) (h : s < 18446744073709551616) : bits BinOp.and IntKind.u64 (s : Int) 4294967295 = ((lo s : Nat) : Int) := by
  rw [show (4294967295 : Int) = ((4294967295 : Nat) : Int) from rfl, u64_and_nat _ _ h (by omega), show (4294967295 : Nat) = 2 ^ 32 - 1 from rfl, Nat.and_two_pow_sub_one_eq_mod]
  rfl
theorem sum4_q (a b c d : Nat) (ha : a < 4294967296) (hb : b < 4294967296) (hc : c < 4294967296) (hd : d < 4294967296) :
    bits BinOp.and IntKind.u64 (IntKind.u64.wrap (IntKind.u64.wrap (IntKind.u64.wrap ((a : Int) + (b : Int)) + (c : Int)) + (d : Int))) 4294967295 = ((lo (a + b + c + d) : Nat) : Int) := by
  rw [IntWalk.u64_in ((a : Int) + (b : Int)) ⟨by omega, by omega⟩, IntWalk.u64_in ((a : Int) + (b : Int) + (c : Int)) ⟨by omega, by omega⟩, IntWalk.u64_in _ ⟨by omega, by omega⟩, ← and_q (a + b + c + d) (by omega)]
  simp

set_option maxRecDepth 100000 in
set_option maxHeartbeats 4000000 in
theorem rwords_any (gb ob c : Nat) (l : List UInt8) (w : World) (hl : l.length = 64) (hc : 64 ≤ c ∧ c ≤ maxLen) (hgb : gb < w.heap.size) (hA : ∀ i (h : i < l.length), w.cell? ⟨gb, ob + i, none⟩ = some (.int .u8 (l[i].toNat : Int))) :
    Calls Tryd.prog 28 #[.slice (some ⟨gb, ob, none⟩) 64 c] w fun e w' => ∃ v, e = .returned v ∧ Aq w v (words l) w' := by
  have HA := Lib.hid hA
  have HL := Lib.hid hl
  have hc1 := hc.1
  have hcm : (c : Int) ≤ 9223372036854775807 := by have := hc.2; unfold maxLen at this; omega
  clear hA hl hc
  go_enter Tryd.func28, Tryd.ntmps28
  go_wp2
  go_loopw [3, 4] (fun vw vt wr => ∃ k : Nat, ∃ A c, k ≤ 16 ∧ vt = .int .i64 k ∧ vw = .slice A k c ∧ Hid (Aq w (.slice A k c) ((first l).take k) wr)) (fun _ vt _ => 16 - (intOf vt).toNat)
  case atStart => exact ⟨0, none, 0, Nat.zero_le _, rfl, rfl, Lib.hid (Aq.nil w)⟩
  case round =>
    obtain ⟨k, A, cc, hk, rfl, rfl, HQ⟩ := hrel
    by_cases hlt : k < 16
    · have hlt' : (k : Int) < 16 := by omega
      have h3 : 4 * k + 3 < l.length := by rw [HL.out]; omega
      have hget : ∀ i (h : i < l.length), wr.cell? ⟨gb, ob + i, none⟩ = some (.int .u8 (l[i].toNat : Int)) := fun i h => (HQ.out.new.cell (p := ⟨gb, ob + i, none⟩) hgb).trans (HA.out i h)
      have q0 := hget (4 * k) (by omega)
      have q1 := hget (4 * k + 1) (by omega)
      have q2 := hget (4 * k + 2) (by omega)
      have q3 := hget (4 * k + 3) (by omega)
      rw [← Nat.add_assoc] at q1 q2 q3
      have HV := Lib.hid (word_at l k h3)
      generalize l[4 * k] = b0 at *
      generalize l[4 * k + 1] = b1 at *
      generalize l[4 * k + 2] = b2 at *
      generalize l[4 * k + 3] = b3 at *
      have hck : 4 * (k : Int) + 4 ≤ (c : Int) := by omega
      clear hget
      have h44 : 4 * k + 4 - 4 * k = 4 := by omega
      have hck2 : ¬ (c : Int) = 4 * (k : Int) := by omega
      have hck3 : ¬ c = 4 * k := by omega
      have t0 := b0.toNat_lt
      have t1 := b1.toNat_lt
      have t2 := b2.toNat_lt
      have t3 := b3.toNat_lt
      have HFT := Lib.hid (first_take l k hlt)
      go_wp2
      have HMK : Hid (∀ o : Obj, Aq w (.slice A k cc) ((first l).take k) (wr.drew.alloc o)) := Lib.hid (fun o => (Aq.drew HQ.out).keep (alloc_new wr.drew o))
      have HTL : Hid (((first l).take k).length = k) := Lib.hid (by rw [List.length_take, first_length]; omega)
      have HQ0 : Hid (w.cell? ⟨gb, ob + 4 * k, none⟩ = some (.int .u8 (b0.toNat : Int))) := Lib.hid ((HQ.out.new.cell (p := ⟨gb, ob + 4 * k, none⟩) hgb).symm.trans q0)
      have HQ1 : Hid (w.cell? ⟨gb, ob + 4 * k + 1, none⟩ = some (.int .u8 (b1.toNat : Int))) := Lib.hid ((HQ.out.new.cell (p := ⟨gb, ob + 4 * k + 1, none⟩) hgb).symm.trans q1)
      have HQ2 : Hid (w.cell? ⟨gb, ob + 4 * k + 2, none⟩ = some (.int .u8 (b2.toNat : Int))) := Lib.hid ((HQ.out.new.cell (p := ⟨gb, ob + 4 * k + 2, none⟩) hgb).symm.trans q2)
      have HQ3 : Hid (w.cell? ⟨gb, ob + 4 * k + 3, none⟩ = some (.int .u8 (b3.toNat : Int))) := Lib.hid ((HQ.out.new.cell (p := ⟨gb, ob + 4 * k + 3, none⟩) hgb).symm.trans q3)
      go_region_held3 (fun w' => w'.cell? ⟨gb, ob + 4 * k, none⟩ = some (.int .u8 (b0.toNat : Int)) ∧ w'.cell? ⟨gb, ob + 4 * k + 1, none⟩ = some (.int .u8 (b1.toNat : Int)) ∧ w'.cell? ⟨gb, ob + 4 * k + 2, none⟩ = some (.int .u8 (b2.toNat : Int)) ∧ w'.cell? ⟨gb, ob + 4 * k + 3, none⟩ = some (.int .u8 (b3.toNat : Int)))
        (go_keep)
        (first
          | (refine step_aq (w0 := w) (z := (first l).take k) (l := [word l k]) (by rfl) (.tmp 22) (.tmp 45) (by rfl) (HMK.out _) (by rfl) (by rfl) (reads_qx _ _ _ (by rw [HV.out]; exact word_val _ _ _ _ t0 t1 t2 t3)) (by rw [HTL.out]; simp; omega) ?_; intro v5 w5 hM5; obtain ⟨A5, c5, rfl, -, -⟩ := hM5.len (k + 1) (by rw [List.length_append, HTL.out]; rfl); have HM5 := Lib.hid hM5; have s0 := (hM5.new.cell (p := ⟨gb, ob + 4 * k, none⟩) hgb).trans HQ0.out; have s1 := (hM5.new.cell (p := ⟨gb, ob + 4 * k + 1, none⟩) hgb).trans HQ1.out; have s2 := (hM5.new.cell (p := ⟨gb, ob + 4 * k + 2, none⟩) hgb).trans HQ2.out; have s3 := (hM5.new.cell (p := ⟨gb, ob + 4 * k + 3, none⟩) hgb).trans HQ3.out; clear hM5)
          | fail)
      go_wp2_with fail
      go_roundw
      case rel => exact ⟨k + 1, _, _, by omega, by go_num, rfl, Lib.hid (by rw [HFT.out]; exact HM5.out)⟩
      case measure => simp [intOf]; omega
    · obtain rfl : k = 16 := by omega
      have hw0 := HQ.out
      rw [List.take_of_length_le (by rw [first_length]; omega)] at hw0
      have HW0 := Lib.hid hw0
      clear hw0 HQ
      go_wp2
      go_loopw [3, 6] (fun vw vt wr => ∃ t : Nat, ∃ A c, 16 ≤ t ∧ t ≤ 64 ∧ vt = .int .i64 t ∧ vw = .slice A t c ∧ Hid (Aq w (.slice A t c) (more (first l) (t - 16)) wr)) (fun _ vt _ => 64 - (intOf vt).toNat)
      case atStart => exact ⟨16, _, _, Nat.le_refl _, by omega, rfl, rfl, HW0⟩
      case round =>
        clear HW0
        obtain ⟨t, A, cc, ht0, ht, rfl, rfl, HQ⟩ := hrel
        have hml : (more (first l) (t - 16)).length = t := by rw [more_length, first_length]; omega
        have HML := Lib.hid hml
        by_cases hlt2 : t < 64
        · have hmx := more_lt _ (first_lt l) (t - 16)
          have HN := Lib.hid (next_at (more (first l) (t - 16)) t ht0 hml)
          have HMO : Hid (more (first l) (t + 1 - 16) = more (first l) (t - 16) ++ [next (more (first l) (t - 16)) t]) := Lib.hid (by rw [show t + 1 - 16 = t - 16 + 1 by omega, more, show 16 + (t - 16) = t by omega])
          obtain ⟨g, c2, hv2, -, hwg, hgl, hcell⟩ := HQ.out.at_ t hml (by omega)
          simp only [Value.slice.injEq, true_and] at hv2
          obtain ⟨rfl, rfl⟩ := hv2
          have q15 := hcell (t - 15) (by omega)
          have q2 := hcell (t - 2) (by omega)
          have q16 := hcell (t - 16) (by omega)
          have q7 := hcell (t - 7) (by omega)
          have l15 := hmx _ (List.getElem_mem (show t - 15 < (more (first l) (t - 16)).length by omega))
          have l2 := hmx _ (List.getElem_mem (show t - 2 < (more (first l) (t - 16)).length by omega))
          have l16 := hmx _ (List.getElem_mem (show t - 16 < (more (first l) (t - 16)).length by omega))
          have l7 := hmx _ (List.getElem_mem (show t - 7 < (more (first l) (t - 16)).length by omega))
          obtain ⟨a, ha⟩ : ∃ a, (more (first l) (t - 16))[t - 16]'(by omega) = a := ⟨_, rfl⟩
          obtain ⟨b, hb⟩ : ∃ b, (more (first l) (t - 16))[t - 7]'(by omega) = b := ⟨_, rfl⟩
          have HX16 : Hid ((more (first l) (t - 16))[t - 16]? = some a) := Lib.hid (by rw [← ha]; exact List.getElem?_eq_getElem _)
          have HX7 : Hid ((more (first l) (t - 16))[t - 7]? = some b) := Lib.hid (by rw [← hb]; exact List.getElem?_eq_getElem _)
          rw [ha] at q16 l16 HN
          rw [hb] at q7 l7 HN
          clear ha hb
          generalize (more (first l) (t - 16))[t - 15]'(by omega) = x at *
          generalize (more (first l) (t - 16))[t - 2]'(by omega) = y at *
          have hs0 := sg0_q x l15
          have hs1 := sg1_q y l2
          have HT7 : Hid (∀ W : World, Calls Tryd.prog 29 #[.int .u64 (x : Int), .int .u64 7] W fun e w' => e = .returned (.int .u64 (rotr x 7 : Nat)) ∧ W = w') := Lib.hid (fun W => rturned_any x 7 25 W l15 rfl (by decide) (by decide))
          have HT18 : Hid (∀ W : World, Calls Tryd.prog 29 #[.int .u64 (x : Int), .int .u64 18] W fun e w' => e = .returned (.int .u64 (rotr x 18 : Nat)) ∧ W = w') := Lib.hid (fun W => rturned_any x 18 14 W l15 rfl (by decide) (by decide))
          have HT17 : Hid (∀ W : World, Calls Tryd.prog 29 #[.int .u64 (y : Int), .int .u64 17] W fun e w' => e = .returned (.int .u64 (rotr y 17 : Nat)) ∧ W = w') := Lib.hid (fun W => rturned_any y 17 15 W l2 rfl (by decide) (by decide))
          have HT19 : Hid (∀ W : World, Calls Tryd.prog 29 #[.int .u64 (y : Int), .int .u64 19] W fun e w' => e = .returned (.int .u64 (rotr y 19 : Nat)) ∧ W = w') := Lib.hid (fun W => rturned_any y 19 13 W l2 rfl (by decide) (by decide))
          have HM3 : Hid (∀ W : World, Calls Tryd.prog 41 #[.int .u64 (x : Int), .int .u64 3] W fun e w' => e = .returned (.int .u64 (x / 8 : Nat)) ∧ W = w') := Lib.hid (fun W => rmoved_any x 3 W l15 (by decide))
          have HM10 : Hid (∀ W : World, Calls Tryd.prog 41 #[.int .u64 (y : Int), .int .u64 10] W fun e w' => e = .returned (.int .u64 (y / 1024 : Nat)) ∧ W = w') := Lib.hid (fun W => rmoved_any y 10 W l2 (by decide))
          have b0 := sg0_lt x l15
          have b1 := sg1_lt y l2
          generalize sg0 x = z0 at *
          generalize sg1 y = z1 at *
          generalize rotr x 7 = r7 at *
          generalize rotr x 18 = r18 at *
          generalize rotr y 17 = r17 at *
          generalize rotr y 19 = r19 at *
          generalize x / 8 = m3 at *
          generalize y / 1024 = m10 at *
          have i15 : ((t - 15 : Nat) : Int) < (t : Int) := by omega
          have j15 : IntKind.i64.wrap ((t : Int) - 15) = ((t - 15 : Nat) : Int) := by rw [IntWalk.i64_in _ ⟨by omega, by omega⟩]; omega
          have i2 : ((t - 2 : Nat) : Int) < (t : Int) := by omega
          have j2 : IntKind.i64.wrap ((t : Int) - 2) = ((t - 2 : Nat) : Int) := by rw [IntWalk.i64_in _ ⟨by omega, by omega⟩]; omega
          have i16 : ((t - 16 : Nat) : Int) < (t : Int) := by omega
          have j16 : IntKind.i64.wrap ((t : Int) - 16) = ((t - 16 : Nat) : Int) := by rw [IntWalk.i64_in _ ⟨by omega, by omega⟩]; omega
          have i7 : ((t - 7 : Nat) : Int) < (t : Int) := by omega
          have j7 : IntKind.i64.wrap ((t : Int) - 7) = ((t - 7 : Nat) : Int) := by rw [IntWalk.i64_in _ ⟨by omega, by omega⟩]; omega
          clear hmx hml hcell
          go_wp2
          go_region_held3 (fun w' => w'.cell? ⟨g, t - 15, none⟩ = some (.int .u64 (x : Int)) ∧ w'.cell? ⟨g, t - 2, none⟩ = some (.int .u64 (y : Int)))
            (go_keep)
            (fail)
          go_wp2_with (first
            | (go_at_call 29; (with_reducible refine (HT7.out _).mono ?_); rintro e w1 ⟨rfl, rfl⟩)
            | (go_at_call 29; (with_reducible refine (HT18.out _).mono ?_); rintro e w1 ⟨rfl, rfl⟩)
            | (go_at_call 29; (with_reducible refine (HT17.out _).mono ?_); rintro e w1 ⟨rfl, rfl⟩)
            | (go_at_call 29; (with_reducible refine (HT19.out _).mono ?_); rintro e w1 ⟨rfl, rfl⟩)
            | (go_at_call 41; (with_reducible refine (HM3.out _).mono ?_); rintro e w1 ⟨rfl, rfl⟩)
            | (go_at_call 41; (with_reducible refine (HM10.out _).mono ?_); rintro e w1 ⟨rfl, rfl⟩)
            | fail)
          have HMK : Hid (∀ o : Obj, Aq w (.slice (some ⟨g, 0, none⟩) t cc) (more (first l) (t - 16)) (wr.drew.drew.alloc o)) := Lib.hid (fun o => (Aq.drew (Aq.drew HQ.out)).keep (alloc_new wr.drew.drew o))
          go_region_held3 (fun w' => w'.cell? ⟨g, t - 16, none⟩ = some (.int .u64 (a : Int)) ∧ w'.cell? ⟨g, t - 7, none⟩ = some (.int .u64 (b : Int)))
            (go_keep)
            (first
              | (refine step_aq2 (w0 := w) (z := more (first l) (t - 16)) (l := [next (more (first l) (t - 16)) t]) (by rfl) (.tmp 77) (.tmp 94) (by rfl) (HMK.out _) HML.out (by rfl) (by rfl) (reads_qx _ _ _ (by rw [HN.out]; exact sum4_q _ _ _ _ l16 b0 l7 b1)) (by simp; omega) ?_; intro v5 w5 hM5 hK5; obtain ⟨A5, c5, rfl, -, -⟩ := hM5.len (t + 1) (by rw [List.length_append, HML.out]; rfl); have HM5 := Lib.hid hM5; have s0 := hK5 (t - 16) a HX16.out; have s1 := hK5 (t - 7) b HX7.out; clear hM5 hK5)
              | fail)
          go_wp2_with fail
          go_roundw
          case rel =>
            (repeat apply Exists.intro)
            refine ⟨?_, rfl⟩
            exact ⟨t + 1, _, _, by omega, by omega, by go_num, rfl, Lib.hid (by rw [HMO.out]; exact HM5.out)⟩
          case measure => simp [intOf]; omega
        · obtain rfl : t = 64 := by omega
          go_wp2
          go_ret
          exact ⟨_, rfl, HQ.out⟩
end Go.Proofs.YtnmjgbkifglleaaDoor.sha
