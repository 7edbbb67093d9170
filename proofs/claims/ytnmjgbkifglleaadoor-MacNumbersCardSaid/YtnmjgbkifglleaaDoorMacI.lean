/-
  MacNumbers.
-/
import Derived.Test.YtnmjgbkifglleaaDoorMacF
namespace Go.Proofs.YtnmjgbkifglleaaDoor.sha
open Go.RowKit Go.Proofs.YtnmjgbkifglleaaDoor.mem Go.Proofs.YtnmjgbkifglleaaDoor.kit Go.Proofs.YtnmjgbkifglleaaDoor.wire
set_option linter.unusedVariables false
theorem Bf.reads_n {W : World} {g n : Nat} {X : List UInt8} (h : Bf W g X) (hn : X.length = n) : Reads W W.heap.size 1 (some ⟨g, 0, none⟩) n (vb X) := by
  subst hn
  exact h.reads
theorem bf_new {W W' : World} {g : Nat} {X : List UInt8} (h : Bf W g X) (hn : New W W') : Bf W' g X := Blk.below h hn (Blk.lt h)
theorem z300 (n : Nat) : ∃ X : List UInt8, X.length = n ∧ Go.Proofs.YtnmjgbkifglleaaDoor.sha.zrow n = (vb X).toArray := by
  refine ⟨List.replicate n 0, by simp, ?_⟩
  unfold Go.Proofs.YtnmjgbkifglleaaDoor.sha.zrow madeCells vb
  apply Array.ext'
  simp [Value.cells, Nat.mod_one]
  apply List.ext_getElem
  · simp
  · intro i h1 h2
    simp
set_option maxRecDepth 100000 in
set_option maxHeartbeats 8000000 in
theorem MacNumbers_any (w : World) (h : GAt w) : Calls Tryd.prog 6 #[] w fun e w' => e = .returned (.bool true) ∧ New w w' := by
  obtain ⟨X0, hX0, hz⟩ := z300 300
  have hmk : ∀ W : World, (Instr.makeSlice 22 (.int .i64 300) (.int .i64 300)).run Tryd.prog W = .ok (.slice (some ⟨W.heap.size, 0, none⟩) 300 300) (W.alloc (.cells (vb X0).toArray 5)) := fun W => by
    have h := make_bytes 300 300 (by omega) (by omega) W
    rwa [hz] at h
  obtain ⟨Z, hZ⟩ : ∃ Z, (vb X0).toArray = Z := ⟨_, rfl⟩
  have HB0 : Hid (Bf (w.alloc (.cells Z 5)) w.heap.size X0) := Lib.hid (by unfold Bf; rw [hZ]; exact Blk.new w _ _)
  have HN0 : Hid (New w (w.alloc (.cells Z 5))) := Lib.hid (alloc_new w _)
  have HL0 := Lib.hid hX0
  rw [hZ] at hmk
  have HMT : Hid (∀ W A C E n c m d q f key b T, New w W → n = List.length key → m = List.length b → q = List.length T → Reads W W.heap.size 1 A n (vb key) → Reads W W.heap.size 1 C m (vb b) → Reads W W.heap.size 1 E q (vb T) → Calls Tryd.prog 5 #[.slice A n c, .slice C m d, .slice E q f] W fun e w' => e = .returned (.bool true) ∧ New W w') := Lib.hid (fun W A C E n c m d q f key b T hW h1 h2 h3 r1 r2 r3 => MacTags_any A C E n c m d q f key b T W (h.new hW) h1 h2 h3 r1 r2 r3)
  have HAW : Hid (∀ W, New w W → Calls Tryd.prog 15 #[] W fun e w' => e = .returned (.bool true) ∧ New W w') := Lib.hid (fun W hW => awake5_any W (h.new hW))
  clear h hX0 hz hZ
  go_enter Tryd.func6, Tryd.ntmps6
  go_wp2
  go_loopw [2] (fun vi wr => ∃ i : Nat, i ≤ 300 ∧ vi = .int .i64 (i : Int) ∧ Hid (New w wr ∧ ∃ X : List UInt8, X.length = 300 ∧ Bf wr w.heap.size X)) (fun vi _ => 300 - (intOf vi).toNat)
  case atStart => exact ⟨0, Nat.zero_le _, rfl, Lib.hid ⟨HN0.out, X0, HL0.out, HB0.out⟩⟩
  case round =>
    clear HB0 HN0
    obtain ⟨i, hi, rfl, HJ⟩ := hrel
    obtain ⟨X, hXl, hX⟩ := HJ.out.2
    have HXL := Lib.hid hXl
    have HBX := Lib.hid hX
    have HN := Lib.hid HJ.out.1
    clear hmk hXl hX HJ
    by_cases hlt : i < 300
    · have hi3 : (i : Int) < 300 := by omega
      obtain ⟨v, hv⟩ := HBX.out.cell (i := i) (by rw [HXL.out]; exact hlt)
      have hfz := Blk.frozen HBX.out i
      have HV : Hid (((7 * (i : Int) + 1) % 256) = ((UInt8.ofNat (7 * i + 1)).toNat : Int)) := Lib.hid (by rw [UInt8.toNat_ofNat']; omega)
      go_wp2_with fail
      go_roundw
      case rel => exact ⟨i + 1, by omega, by go_num, Lib.hid ⟨HN.out.setCell (Nat.le_refl _) _, X.set i (UInt8.ofNat (7 * i + 1)), by rw [List.length_set, HXL.out], by rw [HV.out]; exact HBX.out.set i _⟩⟩
      case measure => simp [intOf]; omega
    · obtain rfl : i = 300 := by omega
      obtain ⟨wx, hwx⟩ : ∃ wx : World, wx = wr := ⟨_, rfl⟩
      rw [← hwx]
      rw [← hwx] at HN HBX
      clear hwx
      go_wp2_with fail
      go_loopw [3] (fun vn wj => ∃ n : Nat, n ≤ 131 ∧ vn = .int .i64 (n : Int) ∧ Hid (New wx wj)) (fun vn _ => 131 - (intOf vn).toNat)
      case atStart => exact ⟨0, Nat.zero_le _, rfl, Lib.hid (new_refl _)⟩
      case round =>
        obtain ⟨n, hn, rfl, HW⟩ := hrel
        by_cases hlt2 : n < 131
        · have hn131 : (n : Int) ≤ 130 := by omega
          have HRW : Hid (∀ W, New wx W → Reads W W.heap.size 1 (some ⟨w.heap.size, 0, none⟩) 300 (vb X)) := Lib.hid (fun W hW => (bf_new HBX.out hW).reads_n HXL.out)
          obtain ⟨r, hr⟩ : ∃ r, n % 7 = r := ⟨_, rfl⟩
          have hr7 : r ≤ 6 := by omega
          have hri : (n : Int) % 7 = (r : Int) := by omega
          have HM1 : Hid (∀ W, New wx W → Calls Tryd.prog 5 #[.slice (some ⟨w.heap.size, 0, none⟩) n 300, .slice (some ⟨w.heap.size, 0, none⟩) r 300, .slice none 0 0] W fun e w' => e = .returned (.bool true) ∧ New W w') := Lib.hid (fun W hW => by
            have h0 := HRW.out W hW
            exact HMT.out W _ _ none n 300 r 300 0 0 (X.take n) (X.take r) [] (New.then HN.out hW) (by rw [List.length_take, HXL.out]; omega) (by rw [List.length_take, HXL.out]; omega) rfl (reads_take h0 (by omega)) (reads_take h0 (by omega)) Reads.none_)
          have HM2 : Hid (∀ W, New wx W → Calls Tryd.prog 5 #[.slice (some ⟨w.heap.size, n, none⟩) 5 (300 - n), .slice (some ⟨w.heap.size, 0, none⟩) n 300, .slice (some ⟨w.heap.size, 0, none⟩) 32 300] W fun e w' => e = .returned (.bool true) ∧ New W w') := Lib.hid (fun W hW => by
            have h0 := HRW.out W hW
            have h1 := h0.cut (k := n) (cap := 300) (by omega) (by omega)
            rw [if_neg (by omega)] at h1
            have h2 : Reads W W.heap.size 1 (some ⟨w.heap.size, n, none⟩) (300 - n) (vb (X.drop n)) := by
              simpa [Addr.add_lit, vb, ← List.map_drop] using h1
            exact HMT.out W _ _ _ 5 (300 - n) n 300 32 300 ((X.drop n).take 5) (X.take n) (X.take 32) (New.then HN.out hW) (by rw [List.length_take, List.length_drop, HXL.out]; omega) (by rw [List.length_take, HXL.out]; omega) (by rw [List.length_take, HXL.out]; omega) (reads_take h2 (by omega)) (reads_take h0 (by omega)) (reads_take h0 (by omega)))
          have h5 : n + 5 - n = 5 := by omega
          have hn5 : (n : Int) + 5 ≤ 300 := by omega
          have hn300 : ¬ (300 : Int) = (n : Int) := by omega
          have hn300n : ¬ 300 = n := by omega
          have hrr : (r : Int) ≤ 300 := by omega
          have hnn : (n : Int) ≤ 300 := by omega
          have k5 : (0 : Int) ≤ (n : Int) + 5 := by omega
          have t5 : ((n : Int) + 5).toNat = n + 5 := by omega
          have m5 : (n : Int) ≤ (n : Int) + 5 := by omega
          have r0 : (0 : Int) ≤ (r : Int) := by omega
          have jr : (n : Int).tmod 7 = (r : Int) := by rw [Int.tmod_eq_emod_of_nonneg (by omega)]; exact hri
          have j5 : IntKind.i64.wrap ((n : Int) + 5) = (n : Int) + 5 := IntWalk.i64_in _ ⟨by omega, by omega⟩
          have HWD : Hid (New wx wr.drew) := Lib.hid (Below.drew HW.out)
          have HM1' := Lib.hid (HM1.out wr.drew HWD.out)
          clear hr
          go_wp2_with fail
          go_region_held3 (fun _ => True)
            (trivial)
            (first
              | (go_at_call 5; (with_reducible refine HM1'.out.mono ?_); rintro e w5 ⟨rfl, hn5'⟩; have HN5 := Lib.hid (New.then HWD.out hn5'); have HM2' := Lib.hid (HM2.out w5 HN5.out); clear hn5')
              | (go_at_call 5; (with_reducible refine HM2'.out.mono ?_); rintro e w6 ⟨rfl, hn6⟩; have HN6 := Lib.hid (New.then HN5.out hn6); clear hn6)
              | fail)
          clear j5
          go_wp2_with fail
          go_roundw
          case rel =>
            (repeat apply Exists.intro)
            refine ⟨?_, rfl⟩
            exact ⟨n + 1, by omega, by go_num, HN6⟩
          case measure => simp [intOf]; omega
        · obtain rfl : n = 131 := by omega
          have HM3 := Lib.hid (HMT.out wr none none none 0 0 0 0 0 0 [] [] [] (New.then HN.out HW.out) rfl rfl rfl Reads.none_ Reads.none_ Reads.none_)
          go_wp2_with (first
            | (go_at_call 5; (with_reducible refine HM3.out.mono ?_); rintro e w5 ⟨rfl, hn5⟩; have HN5 := Lib.hid (New.then (New.then HN.out HW.out) hn5); have HA5 := Lib.hid (HAW.out w5 (New.then (New.then HN.out HW.out) hn5)); clear hn5)
            | (go_at_call 15; (with_reducible refine HA5.out.mono ?_); rintro e w6 ⟨rfl, hn6⟩; have HN6 := Lib.hid (New.then HN5.out hn6); clear hn6)
            | fail)
          go_ret
          exact ⟨rfl, HN6.out⟩
end Go.Proofs.YtnmjgbkifglleaaDoor.sha
