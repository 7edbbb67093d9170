/-
  mac: Tag.
-/
import Derived.Test.YtnmjgbkifglleaaDoorMacA
import Derived.Test.YtnmjgbkifglleaaDoorBag
namespace Go.Proofs.YtnmjgbkifglleaaDoor.sha
open Go.RowKit Go.Proofs.YtnmjgbkifglleaaDoor.mem Go.Proofs.YtnmjgbkifglleaaDoor.kit Go.Proofs.YtnmjgbkifglleaaDoor.wire
set_option linter.unusedVariables false
theorem reads_p2 (W : World) (t : TypeId) (a b : Value) : Reads (W.alloc (.cells #[a, b] t)) (W.alloc (.cells #[a, b] t)).heap.size 1 (some ⟨W.heap.size, 0, none⟩) 2 [a, b] := by
  refine ⟨rfl, fun _ => ⟨_, rfl, by simp, fun j u hu => ?_⟩⟩
  rw [Addr.add_lit, Nat.zero_add, (Blk.new W t #[a, b]).cell j]
  simpa using hu
/-- The digest of two parts. -/
theorem digest_any (W : World) (hG : GAt W) (A1 A2 : Option Addr) (n1 n2 c1 c2 : Nat) (l1 l2 : List UInt8) (h1 : n1 = l1.length) (h2 : n2 = l2.length) (hb : n1 + n2 ≤ 1000000000) (r1 : Reads W W.heap.size 1 A1 n1 (vb l1)) (r2 : Reads W W.heap.size 1 A2 n2 (vb l2)) :
    Calls Tryd.prog 32 #[.slice (some ⟨W.heap.size, 0, none⟩) 2 2] (W.alloc (.cells #[.slice A1 n1 c1, .slice A2 n2 c2] 22)) fun e w' => ∃ A4 c4, e = .returned (.slice A4 32 c4) ∧ w'.ownsRow W.heap.size 5 1 (.slice A4 32 c4) 32 (vb (sum (l1 ++ l2))) ∧ New W w' := by
  subst h1
  subst h2
  have hN := alloc_new W (.cells #[.slice A1 l1.length c1, .slice A2 l2.length c2] 22)
  have hp : Parts (W.alloc (.cells #[.slice A1 l1.length c1, .slice A2 l2.length c2] 22)) [.slice A1 l1.length c1, .slice A2 l2.length c2] [l1, l2] := by
    refine ⟨rfl, fun k hk => ?_⟩
    match k, hk with
    | 0, _ => exact ⟨A1, c1, rfl, r1.new hN⟩
    | 1, _ => exact ⟨A2, c2, rfl, r2.new hN⟩
    | k + 2, hk => exact absurd hk (by simp)
  have hfl : [l1, l2].flatten = l1 ++ l2 := by simp
  have hc := concat_any (some ⟨W.heap.size, 0, none⟩) 2 [.slice A1 l1.length c1, .slice A2 l2.length c2] [l1, l2] _ hp (reads_p2 W _ _ _) (by simp) (by rw [hfl, List.length_append]; omega)
  rw [hfl] at hc
  obtain ⟨L, hL⟩ : ∃ L, l1 ++ l2 = L := ⟨_, rfl⟩
  have hLl : L.length ≤ 1000000000 := by rw [← hL, List.length_append]; exact hb
  rw [hL] at hc ⊢
  obtain ⟨m, hm⟩ : ∃ m, L.length = m := ⟨_, rfl⟩
  have HC : Hid (Calls Tryd.prog 43 #[.slice (some ⟨W.heap.size, 0, none⟩) 2 2] (W.alloc (.cells #[.slice A1 l1.length c1, .slice A2 l2.length c2] 22)) fun e w' => ∃ A3 c3, e = .returned (.slice A3 m c3) ∧ Calls Tryd.prog 11 #[.slice A3 m c3] w' fun e' w'' => ∃ A4 c4, e' = .returned (.slice A4 32 c4) ∧ w''.ownsRow W.heap.size 5 1 (.slice A4 32 c4) 32 (vb (sum L)) ∧ New W w'') := Lib.hid (hc.mono fun e w' k => by
    obtain ⟨A3, c3, he, ho, hn⟩ := k
    rw [hm] at he ho
    obtain ⟨hc3, hr3, -⟩ := own_typed ho
    have hn2 := New.then hN hn
    refine ⟨A3, c3, he, (sum_any A3 m c3 L w' hm.symm (by omega) hc3 (hG.new hn2).s (hG.new hn2).k hr3).mono fun e' w'' q => ?_⟩
    obtain ⟨A4, c4, he4, ho4, hn4⟩ := q.at32 (D := sum L) rfl (sum_length _)
    exact ⟨A4, c4, he4, own_base ho4 hn2.size, New.then hn2 hn4⟩)
  clear hc hp hG r1 r2 hb hfl hL hLl hN
  go_enter Tryd.func32, Tryd.ntmps32
  go_wp2_with (first
    | (go_at_call 43; (with_reducible refine HC.out.mono ?_); rintro e w3 ⟨A3, c3, rfl, hs3⟩; have HS3 := Lib.hid hs3; clear hs3)
    | (go_at_call 11; (with_reducible refine HS3.out.mono ?_); rintro e w4 ⟨A4, c4, rfl, ho4, hn4⟩; have HO4 := Lib.hid ho4; have HN4 := Lib.hid hn4; clear ho4 hn4)
    | fail)
  go_ret
  exact ⟨A4, c4, rfl, HO4.out, HN4.out⟩

set_option maxRecDepth 100000 in
theorem under_any (B : List UInt8) (w : World) (hB : B.length = 64) : Calls Tryd.prog 31 #[.agg (vb B).toArray] w fun e w' => e = .returned (.func (Fn.func 42) #[] #[.pointer (some ⟨w.heap.size, 0, none⟩)]) ∧ Bt w' w.heap.size B ∧ New w w' := by
  have hmf : ∀ (fn : Fn) (first cap : Array Value) (w : World), (Instr.makeFunc fn first cap).run Tryd.prog w = .ok (.func fn first cap) w := fun _ _ _ _ => rfl
  obtain ⟨cs, hcs⟩ : ∃ cs, (vb B).toArray = cs := ⟨_, rfl⟩
  have HN := Lib.hid (alloc_new w (.cells cs 48))
  have HB : Hid (Bt (w.alloc (.cells cs 48)) w.heap.size B) := Lib.hid (by unfold Bt; rw [hcs]; exact Blk.new w _ _)
  rw [hcs]
  clear hcs
  go_enter Tryd.func31, Tryd.ntmps31
  go_wp2_with fail
  go_ret
  exact ⟨rfl, HB.out, HN.out⟩

/-- What Tag tells: 32 bytes of the call's own. -/
def TagD (w : World) (D : List UInt8) (e : Ending) (w' : World) : Prop := ∃ A4 c4, e = .returned (.slice A4 32 c4) ∧ w'.ownsRow w.heap.size 5 1 (.slice A4 32 c4) 32 (vb D) ∧ New w w'
set_option maxRecDepth 100000 in
set_option maxHeartbeats 4000000 in
theorem tag_any (A C : Option Addr) (n c m d : Nat) (key b : List UInt8) (w : World) (hG : GAt w) (hn : n = key.length) (hm : m = b.length) (hnl : n ≤ 1000000) (hml : m ≤ 1000000) (hc : n ≤ c ∧ c ≤ maxLen) (hA : Reads w w.heap.size 1 A n (vb key)) (hC : Reads w w.heap.size 1 C m (vb b)) :
    Calls Tryd.prog 16 #[.slice A n c, .slice C m d] w (TagD w (tag key b)) := by
  have HB1 := Lib.hid (blockOf_any A n c key w hG hn (by omega) hc hA)
  have hl64 := blk_length key
  have HU : Hid (∀ W, New w W → Calls Tryd.prog 31 #[.agg (vb (blk key)).toArray] W fun e w' => e = .returned (.func (Fn.func 42) #[] #[.pointer (some ⟨W.heap.size, 0, none⟩)]) ∧ Bt w' W.heap.size (blk key) ∧ New W w') := Lib.hid (fun W _ => under_any (blk key) W hl64)
  have HO : Hid (∀ W g, Bt W g (blk key) → Calls Tryd.prog 42 #[.int .u8 92, .pointer (some ⟨g, 0, none⟩)] W fun e w' => e = .returned (.slice (some ⟨W.heap.size, 0, none⟩) 64 64) ∧ Reads w' w'.heap.size 1 (some ⟨W.heap.size, 0, none⟩) 64 (vb (undr (blk key) 92)) ∧ New W w') := Lib.hid (fun W g h => under1 92 g (blk key) W hl64 h)
  have HI : Hid (∀ W g, Bt W g (blk key) → Calls Tryd.prog 42 #[.int .u8 54, .pointer (some ⟨g, 0, none⟩)] W fun e w' => e = .returned (.slice (some ⟨W.heap.size, 0, none⟩) 64 64) ∧ Reads w' w'.heap.size 1 (some ⟨W.heap.size, 0, none⟩) 64 (vb (undr (blk key) 54)) ∧ New W w') := Lib.hid (fun W g h => under1 54 g (blk key) W hl64 h)
  have hu1 : (undr (blk key) 54).length = 64 := by rw [undr_length, hl64]
  have hu2 : (undr (blk key) 92).length = 64 := by rw [undr_length, hl64]
  have HD1 : Hid (∀ W g, New w W → Reads W W.heap.size 1 (some ⟨g, 0, none⟩) 64 (vb (undr (blk key) 54)) → Calls Tryd.prog 32 #[.slice (some ⟨W.heap.size, 0, none⟩) 2 2] (W.alloc (.cells #[.slice (some ⟨g, 0, none⟩) 64 64, .slice C m d] 22)) fun e w' => ∃ A4 c4, e = .returned (.slice A4 32 c4) ∧ w'.ownsRow W.heap.size 5 1 (.slice A4 32 c4) 32 (vb (inner key b)) ∧ New W w') := Lib.hid (fun W g hW hr => digest_any W (hG.new hW) (some ⟨g, 0, none⟩) C 64 m 64 d (undr (blk key) 54) b hu1.symm hm (by omega) hr (hC.new hW))
  have HD2 : Hid (∀ W g A5 c5, New w W → Reads W W.heap.size 1 (some ⟨g, 0, none⟩) 64 (vb (undr (blk key) 92)) → Reads W W.heap.size 1 A5 32 (vb (inner key b)) → Calls Tryd.prog 32 #[.slice (some ⟨W.heap.size, 0, none⟩) 2 2] (W.alloc (.cells #[.slice (some ⟨g, 0, none⟩) 64 64, .slice A5 32 c5] 22)) fun e w' => ∃ A4 c4, e = .returned (.slice A4 32 c4) ∧ w'.ownsRow W.heap.size 5 1 (.slice A4 32 c4) 32 (vb (tag key b)) ∧ New W w') := Lib.hid (fun W g A5 c5 hW hr h5 => digest_any W (hG.new hW) (some ⟨g, 0, none⟩) A5 64 32 64 c5 (undr (blk key) 92) (inner key b) hu2.symm (inner_length key b).symm (by omega) hr h5)
  generalize blk key = K at *
  generalize inner key b = I at *
  generalize tag key b = T at *
  obtain ⟨cs, hcs⟩ : ∃ cs, (vb K).toArray = cs := ⟨_, rfl⟩
  rw [hcs] at HB1 HU
  clear hcs hu1 hu2 hl64 hG hA hC hc hn hm
  go_enter Tryd.func16, Tryd.ntmps16
  go_wp2_with (first
    | (go_at_call 30; (with_reducible refine HB1.out.mono ?_); rintro e w1 ⟨rfl, hn1⟩; have HN1 := Lib.hid hn1; have HU1 := Lib.hid (HU.out w1 hn1); clear hn1)
    | (go_at_call 31; (with_reducible refine HU1.out.mono ?_); rintro e w2 ⟨rfl, hb2, hn2⟩; have HN2 := Lib.hid (New.then HN1.out hn2); have HB2 := Lib.hid hb2; have HO2 := Lib.hid (HO.out w2 _ hb2); clear hb2 hn2)
    | (go_at_call 42; (with_reducible refine HO2.out.mono ?_); rintro e w3 ⟨rfl, hr3, hn3⟩; have HN3 := Lib.hid (New.then HN2.out hn3); have HR3 := Lib.hid hr3; have HI3 := Lib.hid (HI.out w3 w1.heap.size (Blk.below HB2.out hn3 (Blk.lt HB2.out))); clear hr3 hn3)
    | (go_at_call 42; (with_reducible refine HI3.out.mono ?_); rintro e w4 ⟨rfl, hr4, hn4⟩; have HN4 := Lib.hid (New.then HN3.out hn4); have HR4 := Lib.hid (HR3.out.new hn4); have HD4 := Lib.hid (HD1.out w4 _ HN4.out hr4); clear hr4 hn4)
    | (go_at_call 32; (with_reducible refine HD4.out.mono ?_); rintro e w5 ⟨A5, c5, rfl, ho5, hn5⟩; have HN5 := Lib.hid (New.then HN4.out hn5); have HD5 := Lib.hid (HD2.out w5 _ A5 c5 HN5.out (HR4.out.new hn5) (Reads.of_own ho5)); clear ho5 hn5)
    | (go_at_call 32; (with_reducible refine HD5.out.mono ?_); rintro e w6 ⟨A6, c6, rfl, ho6, hn6⟩; have HN6 := Lib.hid (New.then HN5.out hn6); have HO6 := Lib.hid ho6; clear ho6 hn6)
    | fail)
  go_ret
  exact ⟨A6, c6, rfl, own_base HO6.out HN5.out.size, HN6.out⟩
end Go.Proofs.YtnmjgbkifglleaaDoor.sha
