/-
  Contracts of the document's reader: Bytes that are there.
-/
import Derived.Test.YtpkiopijfhkagaaGreatDoorRefRB
import Derived.Deep.RegionHeld3
namespace Go.Proofs.YtpkiopijfhkagaaGreatDoor.rread
open Go.RowKit Go.Proofs.YtpkiopijfhkagaaGreatDoor.mem Go.Proofs.YtpkiopijfhkagaaGreatDoor.kit Go.Proofs.YtpkiopijfhkagaaGreatDoor.wire Go.Proofs.YtpkiopijfhkagaaGreatDoor.rd
set_option linter.unusedVariables false

/-- A row of bytes that the call has made. -/
structure Ab (w0 : World) (v : Value) (z : List UInt8) (w : World) : Prop where
  own : w.ownsRow w0.heap.size 5 1 v z.length (vb z)
  new : New w0 w
theorem alloc_nw (w : World) (o : Obj) : New w (w.alloc o) := (new_refl w).alloc (Nat.le_refl _) o
theorem Ab.made (w0 w : World) (h : New w0 w) : Ab w0 (.slice (some ⟨w.heap.size, 0, none⟩) 0 0) [] (w.alloc (.cells #[] 5)) :=
  ⟨World.ownsRow_made (e := 5) (base := w0.heap.size) (size := 1) w #[] 0 h.size (by unfold maxLen; omega) (by simp), h.alloc h.size _⟩
theorem Ab.len {w0 w : World} {v : Value} {z : List UInt8} (h : Ab w0 v z w) (m : Nat) (hm : z.length = m) : ∃ A c, v = .slice A m c ∧ (m ≤ c ∧ c ≤ maxLen) ∧ Reads w w.heap.size 1 A m (vb z) := by
  subst hm
  obtain ⟨A, c, rfl, h1, h2, hr⟩ := own_len h.own
  exact ⟨A, c, rfl, ⟨h1, h2⟩, hr⟩
theorem step_ab {ops : Array Oper} {o : Oper} {a : Act} {K : Act → World → Prop} {Q : Exit → Act → World → Prop} {E : Prop} {w : World} (hgd : o.guard = none) (s x : Operand)
    (ho : o.op = .call { callee := .builtin .append, args := #[s, x], argTypes := #[23, 23] })
    {w0 : World} {v : Value} {z l : List UInt8} {A : Option Addr} {c m : Nat} (h : Ab w0 v z w) (hs : a.eval s = v) (hm : m = l.length) (hx : a.eval x = .slice A m c) (hr : Reads w w.heap.size 1 A m (vb l)) (hb : z.length + m ≤ 1099511627776)
    (hK : ∀ v' w', Ab w0 v' (z ++ l) w' → K (a.put o.dst v') w') :
    if Region.wanted o (yielded ops a.tmps) = true then Oper.wp Tryz.prog o a w K Q else E := by
  subst hm
  obtain ⟨i0, hi, hz0, hz1, hz2⟩ := info_parts byte_info
  refine step_append_any w hgd s x 23 ho w0.heap.size 5 i0 _ 1 1 Tryz.underlying23 hi hz0 hz1 hz2 rfl (by omega) v _ _ hs h.own _ A l.length c (vb l) hx hr (vb_one _) (by unfold maxLen; omega) (by omega) h.new.size ?_
  intro v' w' hown hg _
  refine hK v' w' ⟨?_, h.new.grown hg h.new.size (fun k hk => (h.own.lt k hk).1)⟩
  rw [vb_append, List.length_append]
  exact hown
theorem spot_of_cell {w : World} {a : Addr} {v : Value} (h : w.cell? a = some v) : a.spot = none := by
  unfold World.cell? at h
  split at h
  · split at h
    · cases h
    · rename_i hs
      cases hsp : a.spot with
      | none => rfl
      | some x => simp [hsp] at hs
  · cases h

/-- What bytes that are read leave. -/
def BytR (w : World) (g : Nat) (l : List UInt8) (a : Nat) (e : Ending) (w' : World) : Prop :=
  ∃ A c, e = .returned (.slice A (valB (l.drop a)).length c) ∧ w'.ownsRow w.heap.size 5 1 (.slice A (valB (l.drop a)).length c) (valB (l.drop a)).length (vb (valB (l.drop a))) ∧ DR w' g l (a + 8 + (numV (l.drop a)).toNat) false ∧ Ch (fun j => j = g) w w'

set_option maxRecDepth 100000 in
theorem bytes_ok (g : Nat) (l : List UInt8) (a : Nat) (w : World) (hl : l.length ≤ 1099511627776) (ha : a ≤ l.length) (hv : canB (l.drop a)) (h : DR w g l a false) :
    Calls Tryz.prog 27 #[.pointer (some ⟨g, 0, none⟩)] w (BytR w g l a) := by
  obtain ⟨h8, v0, v1⟩ := hv
  rw [List.length_drop] at h8 v1
  obtain ⟨n, hn⟩ : ∃ n : Nat, numV (l.drop a) = (n : Int) := ⟨(numV (l.drop a)).toNat, by omega⟩
  have hnt : (numV (l.drop a)).toNat = n := by omega
  have HN := Lib.hid (number_ok g l a w hl (by omega) h)
  clear h
  unfold NumR at HN
  unfold BytR valB
  rw [hnt]
  rw [hn] at HN v0 v1
  have hvl : (((l.drop a).drop 8).take n).length = n := by simp only [List.length_take, List.length_drop]; omega
  rw [hvl]
  clear hn hnt
  have hd : decide ((n : Int) < 0) = false := by simp
  have hd2 : decide ((l.length : Int) - ((a : Int) + 8) < (n : Int)) = false := by simp; omega
  obtain ⟨i0, hi, hz0, hz1, hz2⟩ := info_parts byte_info
  go_enter Tryz.func27, Tryz.ntmps27
  go_wp2_with (go_at_call 25; refine HN.out.mono ?_; rintro e w1 ⟨rfl, hD, hch⟩; obtain ⟨A, c, c0, c1, c2, z1, z2, hle⟩ := hD.cells; rw [Int.natCast_add] at c1; have HD := Lib.hid hD; clear hD)
  go_quiet (fail)
  go_wp2
  rename_i nq K2 hK2
  have e : ((a + 8 + n : Nat) : Int) = (a : Int) + 8 + (n : Int) := by omega
  have hD2 := (HD.out.new ((new_refl w1).drewN nq)).at_ (a + 8 + n) (by omega)
  rw [e] at hD2
  have hch2 : Ch (fun j => j = g) w ((w1.drewN nq).setCell ⟨g, 1, none⟩ (.int .i64 ((a : Int) + 8 + (n : Int)))) := (hch.drewN _).setCell (p := ⟨g, 1, none⟩) (fun _ => rfl) _
  clear c0 c1 c2 z1 z2 hch hd hd2
  generalize ((w1.drewN nq).setCell ⟨g, 1, none⟩ (.int .i64 ((a : Int) + 8 + (n : Int)))) = W at hD2 hch2 ⊢
  obtain ⟨p, hp⟩ : ∃ p, a + 8 = p := ⟨_, rfl⟩
  obtain ⟨q, hq⟩ : ∃ q, a + 8 + n = q := ⟨_, rfl⟩
  rw [hq] at hD2
  have HD2 := Lib.hid hD2
  obtain ⟨-, A2, k2, hb2, hr2, hcc2, -⟩ := hD2
  have hqp : q - p = n := by omega
  have hpq : (p : Int) ≤ (q : Int) := by omega
  have hp0 : (0 : Int) ≤ (p : Int) := by omega
  have hqk : (q : Int) ≤ (k2 : Int) := by omega
  have hqkn : q ≤ k2 := by omega
  have hpqn : p ≤ q := by omega
  have c0 : W.drew.cell? ⟨g, 0, none⟩ = some (.slice A2 l.length k2) := (hb2.cell 0).trans rfl
  have c1 : W.drew.cell? ⟨g, 1, none⟩ = some (.int .i64 (q : Int)) := (hb2.cell 1).trans rfl
  have c0' : W.cell? ⟨g, 0, none⟩ = some (.slice A2 l.length k2) := (hb2.cell 0).trans rfl
  have c1' : W.cell? ⟨g, 1, none⟩ = some (.int .i64 (q : Int)) := (hb2.cell 1).trans rfl
  have HC0 := Lib.hid c0
  have HC1 := Lib.hid c1
  have HGL : Hid (g < W.drew.heap.size) := Lib.hid hb2.lt
  have HMK : Hid (Ab W.drew (.slice (some ⟨W.drew.heap.size, 0, none⟩) 0 0) [] (W.drew.alloc (.cells #[] 5))) := Lib.hid (Ab.made W.drew W.drew (new_refl _))
  have HCH := Lib.hid hch2
  obtain ⟨V, hV⟩ : ∃ V, ((l.drop a).drop 8).take n = V := ⟨_, rfl⟩
  rw [hV] at hvl
  have HVL := Lib.hid hvl
  have hr2' : Reads W.drew W.drew.heap.size 1 A2 l.length (vb l) := hr2
  have hcut := (hr2'.new (alloc_nw W.drew (.cells #[] 5))).cut (k := p) (cap := k2) (by omega) (by omega)
  have hV2 : V = (l.drop p).take n := by rw [← hV, List.drop_drop, hp]
  have HVB := Lib.hid hV
  have HV2 := Lib.hid hV2
  have HQ := Lib.hid hq
  have HP := Lib.hid hp
  have hqkc : ¬ (q : Int) < (p : Int) := by omega
  have hj0 : (q : Int) - (n : Int) = (p : Int) := by omega
  have hj : IntKind.i64.wrap ((q : Int) - (n : Int)) = (p : Int) := by rw [IntWalk.i64_in _ ⟨by omega, by omega⟩]; exact hj0
  by_cases hcap : k2 = p
  · obtain rfl : n = 0 := by omega
    have hq2 : q = p := by omega
    have HV0 : Hid (V = []) := Lib.hid (by rw [← hV]; simp)
    subst hq2
    subst hcap
    clear hcut hr2 hr2' hb2 hV hV2 hj hj0 hch2
    have HRV : Hid (Reads (W.drew.alloc (.cells #[] 5)) (W.drew.alloc (.cells #[] 5)).heap.size 1 A2 0 (vb V)) := Lib.hid (by rw [HV0.out]; exact ⟨by simp [vb], fun h => absurd h (by omega)⟩)
    have hw0 : IntKind.i64.wrap (k2 : Int) = (k2 : Int) := IntWalk.i64_in _ ⟨by omega, by omega⟩
    go_region_held3 (fun w' => w'.cell? ⟨g, 0, none⟩ = some (.slice A2 l.length k2) ∧ w'.cell? ⟨g, 1, none⟩ = some (.int .i64 (k2 : Int)))
      (go_keep)
      (first
        | (refine step_ab (w0 := W.drew) (z := []) (l := V) (by rfl) (.tmp 40) (.tmp 55) (by rfl) HMK.out (by rfl) HVL.out.symm (by rfl) HRV.out (by simp) ?_; intro v5 w5 hM5; obtain ⟨A5, c5, rfl, -, -⟩ := hM5.len 0 (by simpa using HVL.out); have HM5 := Lib.hid hM5; have s0 := (hM5.new.cell (p := ⟨g, 0, none⟩) HGL.out).trans HC0.out; have s1 := (hM5.new.cell (p := ⟨g, 1, none⟩) HGL.out).trans HC1.out; clear hM5)
        | fail)
    clear hw0
    go_wp2_with fail
    go_ret
    refine ⟨A5, c5, rfl, ?_, ?_, (Ch.drew HCH.out).then (Ch.of_new (S := fun _ => False) HM5.out.new) (fun _ _ hf => hf.elim)⟩
    · have ho := own_base HM5.out.own (show w.heap.size ≤ W.drew.heap.size from HCH.out.size)
      rw [List.nil_append, HVL.out] at ho
      first
        | (rw [← HV2.out]; exact ho)
        | (rw [HVB.out]; exact ho)
        | (simpa [HV0.out] using ho)
    · have hd := DR.new HD2.out (New.then (Below.drew (new_refl W)) HM5.out.new)
      have e1 := HQ.out
      have e2 := HP.out
      first
        | exact hd
        | (rw [← e1] at hd; exact hd)
        | (rw [← e1, e2] at hd; exact hd)
  · have hcapi : ¬ (k2 : Int) = (p : Int) := by omega
    rw [if_neg hcap] at hcut
    obtain ⟨ad, rfl, hgb, hcl⟩ := hr2'.2 (by omega)
    have hsp := spot_of_cell (hcl 0 _ (vb_get _ 0 (by omega)))
    obtain ⟨gb, ob, sp⟩ := ad
    have hsp' : sp = none := by
      have : (Addr.add ⟨gb, ob, sp⟩ 0).spot = sp := by unfold Addr.add; split <;> simp_all
      rw [← this]; exact hsp
    subst hsp'
    have hrv : Reads (W.drew.alloc (.cells #[] 5)) (W.drew.alloc (.cells #[] 5)).heap.size 1 (some ⟨gb, ob + p, none⟩) n (vb V) := by
      have h1 : Reads (W.drew.alloc (.cells #[] 5)) (W.drew.alloc (.cells #[] 5)).heap.size 1 (some ⟨gb, ob + p, none⟩) (l.length - p) (vb (l.drop p)) := by
        simpa [show ∀ (b o j : Nat), (⟨b, o, none⟩ : Addr).add j = ⟨b, o + j, none⟩ from fun b o j => by unfold Addr.add; split <;> simp_all, vb, ← List.map_drop] using hcut
      have h2 := (show Reads _ _ 1 _ n (vb ((l.drop p).take n)) from ⟨by simp [vb_length]; omega, fun h0 => by
        obtain ⟨ad', e', hb', hc'⟩ := h1.2 (by omega)
        refine ⟨ad', e', hb', fun j u hu => hc' j u ?_⟩
        have hj' := (List.getElem?_eq_some_iff.1 hu).1
        rw [vb_length] at hj'
        have hjn : j < n := by simp at hj'; omega
        rw [← hu]
        simp [vb, List.getElem?_take, hjn]⟩ : Reads (W.drew.alloc (.cells #[] 5)) (W.drew.alloc (.cells #[] 5)).heap.size 1 (some ⟨gb, ob + p, none⟩) n (vb ((l.drop p).take n)))
      rw [hV2]
      exact h2
    have HRV := Lib.hid hrv
    clear hcut hr2 hr2' hb2 hV hV2 hcl hsp hrv hch2 hj0
    go_region_held3 (fun w' => w'.cell? ⟨g, 0, none⟩ = some (.slice (some ⟨gb, ob, none⟩) l.length k2) ∧ w'.cell? ⟨g, 1, none⟩ = some (.int .i64 (q : Int)))
      (go_keep)
      (first
        | (refine step_ab (w0 := W.drew) (z := []) (l := V) (by rfl) (.tmp 40) (.tmp 55) (by rfl) HMK.out (by rfl) HVL.out.symm (by rfl) HRV.out (by simp; omega) ?_; intro v5 w5 hM5; obtain ⟨A5, c5, rfl, -, -⟩ := hM5.len n (by simpa using HVL.out); have HM5 := Lib.hid hM5; have s0 := (hM5.new.cell (p := ⟨g, 0, none⟩) HGL.out).trans HC0.out; have s1 := (hM5.new.cell (p := ⟨g, 1, none⟩) HGL.out).trans HC1.out; clear hM5)
        | fail)
    clear hj
    go_wp2_with fail
    go_ret
    refine ⟨A5, c5, rfl, ?_, ?_, (Ch.drew HCH.out).then (Ch.of_new (S := fun _ => False) HM5.out.new) (fun _ _ hf => hf.elim)⟩
    · have ho := own_base HM5.out.own (show w.heap.size ≤ W.drew.heap.size from HCH.out.size)
      rw [List.nil_append, HVL.out] at ho
      first
        | (rw [← HV2.out]; exact ho)
        | (rw [HVB.out]; exact ho)
        | (simpa [HV0.out] using ho)
    · have hd := DR.new HD2.out (New.then (Below.drew (new_refl W)) HM5.out.new)
      have e1 := HQ.out
      have e2 := HP.out
      first
        | exact hd
        | (rw [← e1] at hd; exact hd)
        | (rw [← e1, e2] at hd; exact hd)
end Go.Proofs.YtpkiopijfhkagaaGreatDoor.rread
