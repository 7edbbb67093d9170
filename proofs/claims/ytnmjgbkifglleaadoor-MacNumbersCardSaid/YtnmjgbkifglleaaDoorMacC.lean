/-
  mac: Fits.
-/
import Derived.Test.YtnmjgbkifglleaaDoorMacB
import Derived.Deep.MidRow
import Derived.Stop.BytesEq
import Derived.Deep.RegionWith
namespace Go.Proofs.YtnmjgbkifglleaaDoor.sha
open Go.RowKit Go.Proofs.YtnmjgbkifglleaaDoor.mem Go.Proofs.YtnmjgbkifglleaaDoor.kit Go.Proofs.YtnmjgbkifglleaaDoor.wire
set_option linter.unusedVariables false
theorem info_32 : (Tryd.prog.info? 53).map (·.size) = some 32 := by kernel_rfl
theorem load_32 (W : World) (g o : Nat) (T : List UInt8) (hT : T.length = 32) (h : ∀ i (hi : i < T.length), W.cell? ⟨g, o + i, none⟩ = some (.int .u8 (T[i].toNat : Int))) :
    (Instr.loadAt 53 (.pointer (some ⟨g, o, none⟩))).run Tryd.prog W = .ok (.agg (vb T).toArray) W := by
  refine run_loadAt_mid W g o 53 (vb T) _ (fun j v hv => ?_) Tryd.underlying53 rfl (by rw [vb_length, hT]; exact info_32)
  have hj : j < T.length := by
    have := (List.getElem?_eq_some_iff.1 hv).1
    rwa [vb_length] at this
  rw [vb_get T j hj] at hv
  rw [h j hj]
  exact hv
theorem arr_32 (a : Option Addr) (c : Nat) (W : World) : (Instr.arrayAt 53 (.slice a 32 c)).run Tryd.prog W = .ok (.pointer a) W := by
  unfold Instr.arrayAt
  simp [Sem.run_bind, run_underlying Tryd.underlying53]
theorem size_u8 (W : World) : (sizeOf 5).run Tryd.prog W = .ok 1 W := by
  obtain ⟨i0, hi, hz0, hz1, hz2⟩ := info_parts byte_inf
  simp [sizeOf, typeInfo, hi, hz1]
theorem eq_32 (D T : List UInt8) (hD : D.length = 32) (hT : T.length = 32) (W : World) : (Op.equalIn 10000 53 (.agg (vb D).toArray) (.agg (vb T).toArray)).run Tryd.prog W = .ok (D == T) W :=
  run_equalIn_bytes W 9998 53 5 32 Tryd.underlying53 Tryd.underlying5 size_u8 D T hD hT
theorem step_load_at {ops : Array Oper} {o : Oper} {a : Act} {w : World} {K : Act → World → Prop} {Q : Exit → Act → World → Prop} {E : Prop} (hgd : o.guard = none) (ty : TypeId) (x : Operand) (ho : o.op = .load ty x)
    (p v : Value) (hx : a.eval x = p) (hl : (Instr.loadAt ty p).run Tryd.prog w = .ok v w) (h : K (a.put o.dst v) w) : if Region.wanted o (yielded ops a.tmps) = true then Oper.wp Tryd.prog o a w K Q else E := by
  have hw : Region.wanted o (yielded ops a.tmps) = true := by simp [Region.wanted, hgd]
  rw [if_pos hw]
  unfold Oper.wp execOp
  simp only [ho, hx, Sem.run_bind, Sem.run_pure, Result.andThen_ok, hl]
  exact h
theorem reads_cells {W : World} {B n : Nat} {A : Option Addr} {T : List UInt8} (h : Reads W B 1 A n (vb T)) (hT : T.length = 32) (hn : n = 32) : ∃ g o, A = some ⟨g, o, none⟩ ∧ g < B ∧ ∀ i (hi : i < T.length), W.cell? ⟨g, o + i, none⟩ = some (.int .u8 (T[i].toNat : Int)) := by
  obtain ⟨ad, rfl, hgb, hcl⟩ := h.2 (by omega)
  have hsp := spot_of_cell (hcl 0 _ (vb_get _ 0 (by omega)))
  obtain ⟨gb, ob, sp⟩ := ad
  have hsp' : sp = none := by
    have : (Addr.add ⟨gb, ob, sp⟩ 0).spot = sp := by unfold Addr.add; split <;> simp_all
    rw [← this]; exact hsp
  subst hsp'
  exact ⟨gb, ob, rfl, hgb, fun i hi => by
    have := hcl i _ (vb_get _ i hi)
    rwa [Addr.add_mid] at this⟩
set_option maxRecDepth 100000 in
set_option maxHeartbeats 4000000 in
theorem fits_no (A C E : Option Addr) (n c m d q f : Nat) (w : World) (hq : q ≠ 32) :
    Calls Tryd.prog 18 #[.slice A n c, .slice C m d, .slice E q f] w fun e w' => e = .returned (.bool false) ∧ New w w' := by
  have hqi : ¬ (q : Int) = 32 := by omega
  go_enter Tryd.func18, Tryd.ntmps18
  go_wp2_with fail
  go_ret
  exact ⟨rfl, new_refl _⟩
set_option maxRecDepth 100000 in
set_option maxHeartbeats 4000000 in
theorem fits_32 (A C E : Option Addr) (n c m d f : Nat) (key b T : List UInt8) (w : World) (hG : GAt w) (hn : n = key.length) (hm : m = b.length) (hnl : n ≤ 1000000) (hml : m ≤ 1000000) (hc : n ≤ c ∧ c ≤ maxLen) (hA : Reads w w.heap.size 1 A n (vb key)) (hC : Reads w w.heap.size 1 C m (vb b)) (hT : T.length = 32) (hE : Reads w w.heap.size 1 E 32 (vb T)) :
    Calls Tryd.prog 18 #[.slice A n c, .slice C m d, .slice E 32 f] w fun e w' => e = .returned (.bool (decide (tag key b = T))) ∧ New w w' := by
  have htl := tag_length key b
  have HTG : Hid (Calls Tryd.prog 16 #[.slice A n c, .slice C m d] w.drew (TagD w.drew (tag key b))) := Lib.hid (tag_any A C n c m d key b w.drew (hG.new (Below.drew (new_refl w))) hn hm hnl hml hc (hA.new (Below.drew (new_refl w))) (hC.new (Below.drew (new_refl w))))
  obtain ⟨g, o, rfl, hgl, hcell⟩ := reads_cells hE hT rfl
  have h1 := load_32 w.drew g o T hT hcell
  have HL : Hid (∀ W, New w.drew W → (Instr.loadAt 53 (.pointer (some ⟨g, o, none⟩))).run Tryd.prog W = .ok (.agg (vb T).toArray) W) := Lib.hid (fun W hW => load_32 W g o T hT (fun i hi => (hW.cell (p := ⟨g, o + i, none⟩) hgl).trans (hcell i hi)))
  have HTL := Lib.hid htl
  have har := arr_32
  have heq := eq_32 (tag key b) T htl hT
  have HDL : Hid (∀ W g o, (∀ i (hi : i < (tag key b).length), W.cell? ⟨g, o + i, none⟩ = some (.int .u8 ((tag key b)[i].toNat : Int))) → (Instr.loadAt 53 (.pointer (some ⟨g, o, none⟩))).run Tryd.prog W = .ok (.agg (vb (tag key b)).toArray) W) := Lib.hid (fun W g o h => load_32 W g o (tag key b) htl h)
  generalize tag key b = D at *
  obtain ⟨q, hq⟩ : ∃ q, (D == T) = q := ⟨_, rfl⟩
  have hq2 : decide (D = T) = q := by rw [← hq]; by_cases h : D = T <;> simp [h]
  rw [hq2]
  rw [hq] at heq
  obtain ⟨dA, hdA⟩ : ∃ x, (vb D).toArray = x := ⟨_, rfl⟩
  obtain ⟨tA, htA⟩ : ∃ x, (vb T).toArray = x := ⟨_, rfl⟩
  rw [hdA] at heq HDL
  rw [htA] at heq HL h1
  clear hq hq2 hdA htA
  have H1 := Lib.hid h1
  clear hG hA hC hE hn hm hc hcell h1
  go_enter Tryd.func18, Tryd.ntmps18
  go_wp2_with fail
  refine wp_region_any (by kernel_rfl) ?_
  change wpAny _ _ _ _ _ _ _ (World.drew _)
  refine wpAny_take (i := 0) (v := .slice A n c) rfl (by kernel_rfl) (by kernel_rfl) (by kernel_rfl) (fun _ _ _ h => h) (Or.inl ⟨by rfl, by intro w; go_simp⟩) ?_
  refine wpAny_take (i := 1) (v := .slice C m d) rfl (by kernel_rfl) (by kernel_rfl) (by kernel_rfl) (fun _ _ _ h => h) (Or.inl ⟨by rfl, by intro w; go_simp⟩) ?_
  refine wpAny_take (i := 5) (v := .slice (some ⟨g, o, none⟩) 32 f) rfl (by kernel_rfl) (by kernel_rfl) (by kernel_rfl) (fun _ _ _ h => h) (Or.inl ⟨by rfl, by intro w; go_simp⟩) ?_
  refine wpAny_take (i := 6) (v := .pointer (some ⟨g, o, none⟩)) rfl (by kernel_rfl) (by kernel_rfl) (by kernel_rfl) (fun _ _ _ h => h) (Or.inl ⟨by rfl, by intro w; go_simp⟩) ?_
  refine wpAny_ready (rs := [2, 7]) (by kernel_rfl) (by simp) ?_
  refine AllReady.cons rfl (fun K hK => ?_) (AllReady.cons rfl (fun K hK => ?_) AllReady.nil)
  · go_simp
    go_at_call 16
    refine HTG.out.mono ?_
    rintro e w2 ⟨A2, c2, rfl, ho2, hn2⟩
    have s0 := Lib.hid (HL.out w2 hn2)
    obtain ⟨g2, o2, rfl, -, hcell2⟩ := reads_cells (Reads.of_own ho2) HTL.out rfl
    have s1 := Lib.hid (HDL.out w2 g2 o2 hcell2)
    have HN2 := Lib.hid hn2
    clear hn2 ho2 hcell2
    go_simp
    refine hK _ _ ?_
    clear hK K
    refine wpAny_take (i := 3) (v := .pointer (some ⟨g2, o2, none⟩)) rfl (by kernel_rfl) (by kernel_rfl) (by kernel_rfl) (fun _ _ _ h => h) (Or.inl ⟨by rfl, by intro w; go_simp⟩) ?_
    refine wpAny_ready (rs := [4, 7]) (by kernel_rfl) (by simp) ?_
    refine AllReady.cons rfl (fun K hK => ?_) (AllReady.cons rfl (fun K hK => ?_) AllReady.nil)
    · refine step_load_at (by rfl) 53 (.tmp 13) (by rfl) _ _ (by rfl) s1.out ?_
      refine hK _ _ ?_
      clear hK K
      refine wpAny_ready (rs := [7]) (by kernel_rfl) (by simp) ?_
      refine AllReady.cons rfl (fun K hK => ?_) AllReady.nil
      refine step_load_at (by rfl) 53 (.tmp 16) (by rfl) _ _ (by rfl) s0.out ?_
      refine hK _ _ ?_
      clear hK K
      refine wpAny_take (i := 8) (v := .bool q) rfl (by kernel_rfl) (by kernel_rfl) (by kernel_rfl) (fun _ _ _ h => h) (Or.inl ⟨by rfl, by intro w; go_simp⟩) ?_
      refine wpAny_take (i := 9) (v := .bool q) rfl (by kernel_rfl) (by kernel_rfl) (by kernel_rfl) (fun _ _ _ h => h) (Or.inl ⟨by rfl, by intro w; go_simp⟩) ?_
      refine wpAny_done (by kernel_rfl) ?_ _
      go_wp2_with fail
      go_ret
      exact ⟨rfl, New.then (Below.drew (new_refl w)) HN2.out⟩
    · refine step_load_at (by rfl) 53 (.tmp 16) (by rfl) _ _ (by rfl) s0.out ?_
      refine hK _ _ ?_
      clear hK K
      refine wpAny_ready (rs := [4]) (by kernel_rfl) (by simp) ?_
      refine AllReady.cons rfl (fun K hK => ?_) AllReady.nil
      refine step_load_at (by rfl) 53 (.tmp 13) (by rfl) _ _ (by rfl) s1.out ?_
      refine hK _ _ ?_
      clear hK K
      refine wpAny_take (i := 8) (v := .bool q) rfl (by kernel_rfl) (by kernel_rfl) (by kernel_rfl) (fun _ _ _ h => h) (Or.inl ⟨by rfl, by intro w; go_simp⟩) ?_
      refine wpAny_take (i := 9) (v := .bool q) rfl (by kernel_rfl) (by kernel_rfl) (by kernel_rfl) (fun _ _ _ h => h) (Or.inl ⟨by rfl, by intro w; go_simp⟩) ?_
      refine wpAny_done (by kernel_rfl) ?_ _
      go_wp2_with fail
      go_ret
      exact ⟨rfl, New.then (Below.drew (new_refl w)) HN2.out⟩
  · refine step_load_at (by rfl) 53 (.tmp 16) (by rfl) _ _ (by rfl) H1.out ?_
    refine hK _ _ ?_
    clear hK K
    refine wpAny_ready (rs := [2]) (by kernel_rfl) (by simp) ?_
    refine AllReady.cons rfl (fun K hK => ?_) AllReady.nil
    go_simp
    go_at_call 16
    refine HTG.out.mono ?_
    rintro e w2 ⟨A2, c2, rfl, ho2, hn2⟩
    have s0 := Lib.hid (HL.out w2 hn2)
    obtain ⟨g2, o2, rfl, -, hcell2⟩ := reads_cells (Reads.of_own ho2) HTL.out rfl
    have s1 := Lib.hid (HDL.out w2 g2 o2 hcell2)
    have HN2 := Lib.hid hn2
    clear hn2 ho2 hcell2
    go_simp
    refine hK _ _ ?_
    clear hK K
    refine wpAny_take (i := 3) (v := .pointer (some ⟨g2, o2, none⟩)) rfl (by kernel_rfl) (by kernel_rfl) (by kernel_rfl) (fun _ _ _ h => h) (Or.inl ⟨by rfl, by intro w; go_simp⟩) ?_
    refine wpAny_ready (rs := [4]) (by kernel_rfl) (by simp) ?_
    refine AllReady.cons rfl (fun K hK => ?_) AllReady.nil
    refine step_load_at (by rfl) 53 (.tmp 13) (by rfl) _ _ (by rfl) s1.out ?_
    refine hK _ _ ?_
    clear hK K
    refine wpAny_take (i := 8) (v := .bool q) rfl (by kernel_rfl) (by kernel_rfl) (by kernel_rfl) (fun _ _ _ h => h) (Or.inl ⟨by rfl, by intro w; go_simp⟩) ?_
    refine wpAny_take (i := 9) (v := .bool q) rfl (by kernel_rfl) (by kernel_rfl) (by kernel_rfl) (fun _ _ _ h => h) (Or.inl ⟨by rfl, by intro w; go_simp⟩) ?_
    refine wpAny_done (by kernel_rfl) ?_ _
    go_wp2_with fail
    go_ret
    exact ⟨rfl, New.then (Below.drew (new_refl w)) HN2.out⟩
end Go.Proofs.YtnmjgbkifglleaaDoor.sha
