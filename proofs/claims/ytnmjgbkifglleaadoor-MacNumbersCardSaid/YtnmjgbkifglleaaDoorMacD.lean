/-
  mac's laws: the example; what fits.
-/
import Derived.Test.YtnmjgbkifglleaaDoorMacC
import Derived.StillTailTactics
namespace Go.Proofs.YtnmjgbkifglleaaDoor.sha
open Go.RowKit Go.Proofs.YtnmjgbkifglleaaDoor.mem Go.Proofs.YtnmjgbkifglleaaDoor.kit Go.Proofs.YtnmjgbkifglleaaDoor.wire
set_option linter.unusedVariables false
theorem fits_any (A C E : Option Addr) (n c m d q f : Nat) (key b T : List UInt8) (w : World) (hG : GAt w) (hn : n = key.length) (hm : m = b.length) (hq : q = T.length) (hnl : n ≤ 1000000) (hml : m ≤ 1000000) (hc : n ≤ c ∧ c ≤ maxLen) (hA : Reads w w.heap.size 1 A n (vb key)) (hC : Reads w w.heap.size 1 C m (vb b)) (hE : Reads w w.heap.size 1 E q (vb T)) :
    Calls Tryd.prog 18 #[.slice A n c, .slice C m d, .slice E q f] w fun e w' => e = .returned (.bool (decide (tag key b = T))) ∧ New w w' := by
  by_cases h : q = 32
  · subst h
    exact fits_32 A C E n c m d f key b T w hG hn hm hnl hml hc hA hC hq.symm hE
  · have hd : decide (tag key b = T) = false := by
      rw [decide_eq_false_iff_not]
      intro e
      have := tag_length key b
      rw [e] at this
      omega
    rw [hd]
    exact fits_no A C E n c m d q f w h
set_option maxRecDepth 100000 in
theorem copyb_any (A : Option Addr) (n c : Nat) (l : List UInt8) (w : World) (hn : n = l.length) (hl : n ≤ 1000000) (hA : Reads w w.heap.size 1 A n (vb l)) :
    Calls Tryd.prog 21 #[.slice A n c] w fun e w' => ∃ v, e = .returned v ∧ Ab w v l w' := by
  have HA := Lib.hid hA
  have HN := Lib.hid hn
  clear hA hn
  go_enter Tryd.func21, Tryd.ntmps21
  go_wp2_with (first
    | (at_builtin; refine wpl_ab (w0 := w) (z := []) (l := l) (by rfl) (.tmp 4) (.tmp 5) (by rfl) (Ab.nil w) (by rfl) (by rw [← HN.out]; rfl) (by rw [← HN.out]; exact HA.out) (by have := HN.out; simp; omega) ?_; intro v2 w2 hac2; have HAC := Lib.hid hac2; clear hac2)
    | fail)
  go_ret
  exact ⟨_, rfl, by simpa using HAC.out⟩
/-- A row whose bytes may be turned. -/
def Bv (W : World) (g : Nat) (l : List UInt8) : Prop := ∃ cs : Array Value, Blk W g 5 cs ∧ ∀ (i : Nat) (h : i < l.length), cs[i]? = some (.int .u8 (l[i].toNat : Int))
theorem Bv.at_ {W : World} {g i : Nat} {l : List UInt8} {b : UInt8} (h : Bv W g l) (hi : l[i]? = some b) : W.cell? ⟨g, i, none⟩ = some (.int .u8 (b.toNat : Int)) := by
  obtain ⟨cs, hb, hc⟩ := h
  obtain ⟨hlt, rfl⟩ := List.getElem?_eq_some_iff.1 hi
  exact (hb.cell i).trans (hc i hlt)
theorem Bv.set {W : World} {g i : Nat} {l : List UInt8} (h : Bv W g l) (b : UInt8) : Bv (W.setCell ⟨g, i, none⟩ (.int .u8 (b.toNat : Int))) g (l.set i b) := by
  obtain ⟨cs, hb, hc⟩ := h
  refine ⟨_, hb.set_ i _, fun k hk => ?_⟩
  have hk' : k < l.length := by simpa using hk
  have hck := hc k hk'
  have hlt := (Array.getElem?_eq_some_iff.1 hck).1
  rw [List.getElem_set]
  by_cases e : i = k
  · subst e
    rw [if_pos rfl, Array.getElem?_setIfInBounds_self_of_lt hlt]
  · rw [if_neg e, Array.getElem?_setIfInBounds_ne e]
    exact hck
theorem Bv.frozen {W : World} {g : Nat} {l : List UInt8} (h : Bv W g l) (i : Nat) : W.frozen? ⟨g, i, none⟩ = false := by
  obtain ⟨cs, hb, hc⟩ := h
  exact hb.frozen i
theorem Bv.new {W W' : World} {g : Nat} {l : List UInt8} (h : Bv W g l) (hn : New W W') : Bv W' g l := by
  obtain ⟨cs, hb, hc⟩ := h
  exact ⟨cs, hb.below hn hb.lt, hc⟩
theorem Bv.lt {W : World} {g : Nat} {l : List UInt8} (h : Bv W g l) : g < W.heap.size := by
  obtain ⟨cs, hb, hc⟩ := h
  exact hb.lt
theorem Bv.reads {W : World} {g : Nat} {l : List UInt8} (h : Bv W g l) (n : Nat) (hn : n = l.length) : Reads W W.heap.size 1 (some ⟨g, 0, none⟩) n (vb l) := by
  subst hn
  obtain ⟨cs, hb, hc⟩ := h
  refine ⟨by rw [vb_length, Nat.mul_one], fun _ => ⟨_, rfl, hb.lt, fun j u hu => ?_⟩⟩
  have hj : j < l.length := by
    have := (List.getElem?_eq_some_iff.1 hu).1
    rwa [vb_length] at this
  rw [vb_get l j hj] at hu
  rw [Addr.add_lit, Nat.zero_add, hb.cell j, hc j hj]
  exact hu
theorem bv_of_own {W : World} {B n : Nat} {v : Value} {l : List UInt8} (h : W.ownsRow B 5 1 v n (vb l)) (hn : l.length = n) (h0 : 0 < n) : ∃ g c, v = .slice (some ⟨g, 0, none⟩) n c ∧ (n ≤ c ∧ c ≤ maxLen) ∧ B ≤ g ∧ Bv W g l := by
  subst hn
  obtain ⟨A, c, rfl, h1, h2, hr⟩ := own_len h
  rcases h.2 with ⟨e, e0⟩ | ⟨g, cap, cur, e, hB, hb, _⟩
  · omega
  · simp only [Value.slice.injEq] at e
    obtain ⟨rfl, -, -⟩ := e
    refine ⟨g, c, rfl, ⟨h1, h2⟩, hB, cur, hb, fun i hi => ?_⟩
    obtain ⟨ad, ea, hlt, hc⟩ := hr.2 h0
    simp only [Option.some.injEq] at ea
    subst ea
    have := hc i _ (vb_get l i hi)
    rw [Addr.add_lit, Nat.zero_add] at this
    rw [← this]
    exact (Blk.cell (cs := cur) (t := 5) hb i).symm
theorem TagD.bv {w w' : World} {D : List UInt8} {e : Ending} (h : TagD w D e w') (hD : D.length = 32) : ∃ g c, e = .returned (.slice (some ⟨g, 0, none⟩) 32 c) ∧ (32 ≤ c ∧ c ≤ maxLen) ∧ w.heap.size ≤ g ∧ Bv w' g D ∧ New w w' := by
  obtain ⟨A4, c4, rfl, ho, hn⟩ := h
  obtain ⟨g, c, hv, hc, hB, hb⟩ := bv_of_own ho hD (by omega)
  simp only [Value.slice.injEq, true_and] at hv
  obtain ⟨rfl, rfl⟩ := hv
  exact ⟨g, c4, rfl, hc, hB, hb, hn⟩
theorem reads_mk (w : World) (l : List UInt8) (n : Nat) (fr : Nat × Nat) (hn : n = l.length) : Reads (w.alloc (.cells (vb l).toArray 5 fr)) (w.alloc (.cells (vb l).toArray 5 fr)).heap.size 1 (some ⟨w.heap.size, 0, none⟩) n (vb l) := by
  have h := reads_mark w (vb l).toArray fr
  subst hn
  simpa [vb_length] using h

def jefe : List UInt8 := [74, 101, 102, 101]
def what : List UInt8 := [119, 104, 97, 116, 32, 100, 111, 32, 121, 97, 32, 119, 97, 110, 116, 32, 102, 111, 114, 32, 110, 111, 116, 104, 105, 110, 103, 63]
def want : List UInt8 := [91, 220, 193, 70, 191, 96, 117, 78, 106, 4, 36, 38, 8, 149, 117, 199, 90, 0, 63, 8, 157, 39, 57, 131, 157, 236, 88, 185, 100, 236, 56, 67]
theorem tag_want : tag jefe what = want := tag_jefe
abbrev jefeC : Array Value := #[.int .u8 74, .int .u8 101, .int .u8 102, .int .u8 101]
abbrev whatC : Array Value := #[.int .u8 119, .int .u8 104, .int .u8 97, .int .u8 116, .int .u8 32, .int .u8 100, .int .u8 111, .int .u8 32, .int .u8 121, .int .u8 97, .int .u8 32, .int .u8 119, .int .u8 97, .int .u8 110, .int .u8 116, .int .u8 32, .int .u8 102, .int .u8 111, .int .u8 114, .int .u8 32, .int .u8 110, .int .u8 111, .int .u8 116, .int .u8 104, .int .u8 105, .int .u8 110, .int .u8 103, .int .u8 63]
abbrev wJ (w : World) : World := (w.alloc (.cells jefeC 5 (4, 5))).alloc (.cells whatC 5 (28, 29))
theorem wJ_new (w : World) : New w (wJ w) := New.then (alloc_new w _) (alloc_new _ _)
theorem wJ_key (w : World) : Reads (wJ w) (wJ w).heap.size 1 (some ⟨w.heap.size, 0, none⟩) 4 (vb jefe) := (reads_mk w jefe 4 (4, 5) rfl).new (alloc_new _ _)
theorem wJ_b (w : World) : Reads (wJ w) (wJ w).heap.size 1 (some ⟨w.heap.size + 1, 0, none⟩) 28 (vb what) := by
  have h := reads_mk (w.alloc (.cells jefeC 5 (4, 5))) what 28 (28, 29) rfl
  rw [show (w.alloc (.cells jefeC 5 (4, 5))).heap.size = w.heap.size + 1 by simp] at h
  exact h

set_option maxRecDepth 100000 in
set_option maxHeartbeats 4000000 in
theorem awake5_any (w : World) (h : GAt w) : Calls Tryd.prog 15 #[] w fun e w' => e = .returned (.bool true) ∧ New w w' := by
  have kc := fun (w : World) (C : Array Value) (n c : Nat) => Lib.run_convert_bytes_const (P := Tryd.prog) w 22 5 C n c Tryd.underlying22 Tryd.underlying5
  have kc2 : (convert 22 22 (.slice (some ⟨w.heap.size + 1, 0, none⟩) 28 28)).run Tryd.prog ((w.alloc (.cells #[.int .u8 74, .int .u8 101, .int .u8 102, .int .u8 101] 5 (4, 5))).alloc (.cells #[.int .u8 119, .int .u8 104, .int .u8 97, .int .u8 116, .int .u8 32, .int .u8 100, .int .u8 111, .int .u8 32, .int .u8 121, .int .u8 97, .int .u8 32, .int .u8 119, .int .u8 97, .int .u8 110, .int .u8 116, .int .u8 32, .int .u8 102, .int .u8 111, .int .u8 114, .int .u8 32, .int .u8 110, .int .u8 111, .int .u8 116, .int .u8 104, .int .u8 105, .int .u8 110, .int .u8 103, .int .u8 63] 5)) = .ok (.slice (some ⟨w.heap.size + 1, 0, none⟩) 28 28) ((w.alloc (.cells #[.int .u8 74, .int .u8 101, .int .u8 102, .int .u8 101] 5 (4, 5))).alloc (.cells #[.int .u8 119, .int .u8 104, .int .u8 97, .int .u8 116, .int .u8 32, .int .u8 100, .int .u8 111, .int .u8 32, .int .u8 121, .int .u8 97, .int .u8 32, .int .u8 119, .int .u8 97, .int .u8 110, .int .u8 116, .int .u8 32, .int .u8 102, .int .u8 111, .int .u8 114, .int .u8 32, .int .u8 110, .int .u8 111, .int .u8 116, .int .u8 104, .int .u8 105, .int .u8 110, .int .u8 103, .int .u8 63] 5 (28, 29))) := by
    have h0 := kc (w.alloc (.cells #[.int .u8 74, .int .u8 101, .int .u8 102, .int .u8 101] 5 (4, 5))) #[.int .u8 119, .int .u8 104, .int .u8 97, .int .u8 116, .int .u8 32, .int .u8 100, .int .u8 111, .int .u8 32, .int .u8 121, .int .u8 97, .int .u8 32, .int .u8 119, .int .u8 97, .int .u8 110, .int .u8 116, .int .u8 32, .int .u8 102, .int .u8 111, .int .u8 114, .int .u8 32, .int .u8 110, .int .u8 111, .int .u8 116, .int .u8 104, .int .u8 105, .int .u8 110, .int .u8 103, .int .u8 63] 28 28
    rw [show (w.alloc (.cells #[.int .u8 74, .int .u8 101, .int .u8 102, .int .u8 101] 5 (4, 5))).heap.size = w.heap.size + 1 by simp] at h0
    exact h0
  have HT : Hid (Calls Tryd.prog 16 #[.slice (some ⟨w.heap.size, 0, none⟩) 4 4, .slice (some ⟨w.heap.size + 1, 0, none⟩) 28 28] (wJ w) (TagD (wJ w) want)) := Lib.hid (by
    have ht := tag_any (some ⟨w.heap.size, 0, none⟩) (some ⟨w.heap.size + 1, 0, none⟩) 4 4 28 28 jefe what (wJ w) (h.new (wJ_new w)) rfl rfl (by omega) (by omega) (by unfold maxLen; omega) (wJ_key w) (wJ_b w)
    rwa [tag_want] at ht)
  have HF : Hid (∀ W g c T, New (wJ w) W → Bv W g T → T.length = 32 → Calls Tryd.prog 18 #[.slice (some ⟨w.heap.size, 0, none⟩) 4 4, .slice (some ⟨w.heap.size + 1, 0, none⟩) 28 28, .slice (some ⟨g, 0, none⟩) 32 c] W fun e w' => e = .returned (.bool (decide (want = T))) ∧ New W w') := Lib.hid (fun W g c T hW hb hT => by
    have ht := fits_any (some ⟨w.heap.size, 0, none⟩) (some ⟨w.heap.size + 1, 0, none⟩) (some ⟨g, 0, none⟩) 4 4 28 28 32 c jefe what T W (h.new (New.then (wJ_new w) hW)) rfl rfl hT.symm (by omega) (by omega) (by unfold maxLen; omega) ((wJ_key w).new hW) ((wJ_b w).new hW) (hb.reads 32 hT.symm)
    rwa [tag_want] at ht)
  have HS : Hid (∀ W g c, Bv W g want → Calls Tryd.prog 10 #[.slice (some ⟨g, 0, none⟩) 8 c, .slice (some ⟨W.heap.size, 0, none⟩) 8 8] (W.alloc (.cells #[.int .u8 91, .int .u8 220, .int .u8 193, .int .u8 70, .int .u8 191, .int .u8 96, .int .u8 117, .int .u8 78] 5)) fun e w' => e = .returned (.bool true) ∧ New W w') := Lib.hid (fun W g c hb => by
    have h1 := reads_take (hb.reads 32 rfl) (show 8 ≤ 32 by omega)
    have h2 := h1.new (alloc_new W (.cells #[.int .u8 91, .int .u8 220, .int .u8 193, .int .u8 70, .int .u8 191, .int .u8 96, .int .u8 117, .int .u8 78] 5))
    have h3 : Reads (W.alloc (.cells #[.int .u8 91, .int .u8 220, .int .u8 193, .int .u8 70, .int .u8 191, .int .u8 96, .int .u8 117, .int .u8 78] 5)) (W.alloc (.cells #[.int .u8 91, .int .u8 220, .int .u8 193, .int .u8 70, .int .u8 191, .int .u8 96, .int .u8 117, .int .u8 78] 5)).heap.size 1 (some ⟨W.heap.size, 0, none⟩) 8 (vb (want.take 8)) := reads_mk W [91, 220, 193, 70, 191, 96, 117, 78] 8 (0, 0) rfl
    exact (same_any (some ⟨g, 0, none⟩) (some ⟨W.heap.size, 0, none⟩) c 8 (want.take 8) _ (by decide) h2 h3).mono fun e w' k => ⟨k.1, New.then (alloc_new W _) k.2⟩)
  have HFt : Hid (∀ W g c, New (wJ w) W → Bv W g want → Calls Tryd.prog 18 #[.slice (some ⟨w.heap.size, 0, none⟩) 4 4, .slice (some ⟨w.heap.size + 1, 0, none⟩) 28 28, .slice (some ⟨g, 0, none⟩) 32 c] W fun e w' => e = .returned (.bool true) ∧ New W w') := Lib.hid (fun W g c hW hb => (HF.out W g c want hW hb rfl).mono fun e w' k => ⟨by rw [k.1, show decide (want = want) = true by simp], k.2⟩)
  have HFf : Hid (∀ W g c, New (wJ w) W → Bv W g want → w.heap.size ≤ g → (wJ w).heap.size ≤ g → Calls Tryd.prog 18 #[.slice (some ⟨w.heap.size, 0, none⟩) 4 4, .slice (some ⟨w.heap.size + 1, 0, none⟩) 28 28, .slice (some ⟨g, 0, none⟩) 32 c] (W.setCell ⟨g, 31, none⟩ (.int .u8 66)) fun e w' => e = .returned (.bool false) ∧ New w w') := Lib.hid (fun W g c hW hb hg hg2 => by
    have h1 := Below.setCell hW (p := ⟨g, 31, none⟩) hg2 (.int .u8 66)
    have h2 : Bv (W.setCell ⟨g, 31, none⟩ (.int .u8 66)) g (want.set 31 66) := hb.set (i := 31) 66
    exact (HF.out _ g c (want.set 31 66) h1 h2 rfl).mono fun e w' k => ⟨by rw [k.1, show decide (want = want.set 31 66) = false by decide], New.then (New.then (wJ_new w) h1) k.2⟩)
  have HWJ := Lib.hid (wJ_new w)
  have HX : bits BinOp.xor IntKind.u8 67 1 = 66 := by decide
  clear h
  go_enter Tryd.func15, Tryd.ntmps15
  go_wp2_with (first
    | (go_at_call 16; (with_reducible refine HT.out.mono ?_); rintro e w3 ht; obtain ⟨g3, c3, rfl, hc3, hg3, hb3, hn3⟩ := ht.bv rfl; have HB3 := Lib.hid hb3; have HN3 := Lib.hid hn3; have HG3 := Lib.hid hg3; have d30 := hb3.at_ (i := 30) (b := 56) rfl; have d31 := hb3.at_ (i := 31) (b := 67) rfl; have HS3 := Lib.hid (HS.out w3 g3 c3 hb3); have h8c : 8 ≤ c3 := Nat.le_trans (by decide) hc3.1; have h8i : (8 : Int) ≤ (c3 : Int) := (by omega); clear ht hc3 hg3 hb3 hn3)
    | (go_at_call 10; (with_reducible refine HS3.out.mono ?_); rintro e w4 ⟨rfl, hn4⟩; have HN4 := Lib.hid (New.then HN3.out hn4); have HB4 := Lib.hid (HB3.out.new hn4); have e30 := HB4.out.at_ (i := 30) (b := 56) rfl; have e31 := HB4.out.at_ (i := 31) (b := 67) rfl; have HF4 := Lib.hid (HFt.out w4 g3 c3 HN4.out HB4.out); clear hn4)
    | (go_at_call 18; (with_reducible refine HF4.out.mono ?_); rintro e w5 ⟨rfl, hn5⟩; have HN5 := Lib.hid (New.then HN4.out hn5); have HB5 := Lib.hid (HB4.out.new hn5); have f31 := HB5.out.at_ (i := 31) (b := 67) rfl; have fz31 := HB5.out.frozen 31; have HF6 := Lib.hid (HFf.out w5 g3 c3 HN5.out HB5.out (Nat.le_trans HWJ.out.size HG3.out) HG3.out); clear hn5)
    | (go_at_call 18; (with_reducible refine HF6.out.mono ?_); rintro e w7 ⟨rfl, hn7⟩; have HN7 := Lib.hid hn7; clear hn7)
    | fail)
  go_ret
  exact ⟨rfl, HN7.out⟩
end Go.Proofs.YtnmjgbkifglleaaDoor.sha
