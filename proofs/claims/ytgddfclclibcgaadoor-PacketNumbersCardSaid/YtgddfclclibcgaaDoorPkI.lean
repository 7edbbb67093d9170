/-
  The laws of layer 9: what is got, what is set, the chapter's example.
-/
import Derived.Test.YtgddfclclibcgaaDoorPkH
namespace Go.Proofs.YtgddfclclibcgaaDoor.pk
open Go.RowKit Go.Proofs.YtgddfclclibcgaaDoor.mem Go.Proofs.YtgddfclclibcgaaDoor.kit
set_option linter.unusedVariables false
set_option linter.unusedSimpArgs false

theorem setN_app {n : Nat} {l m : List UInt8} {p k : Int} {v : Nat} (hn : n = l.length) : setN n (l ++ m) p k v = setN n l p k v ++ m := by
  unfold setN
  split
  · rename_i h
    obtain ⟨hz, h0, h1⟩ := errM_0 h
    have hk := isz_rng hz
    unfold putN
    rw [List.take_append_of_le_length (by omega), List.drop_append_of_le_length (by omega)]
    simp
  · rfl
theorem setN_len {n : Nat} {l : List UInt8} {p k : Int} {v : Nat} (hn : n = l.length) : (setN n l p k v).length = n := by
  unfold setN
  split
  · rename_i h
    obtain ⟨hz, h0, h1⟩ := errM_0 h
    have hk := isz_rng hz
    rw [putN_length (by omega), hn]
  · exact hn.symm

set_option maxRecDepth 100000 in
set_option maxHeartbeats 1000000 in
theorem gets_any (A : Option Addr) (n c : Nat) (p k : Int) (l : List UInt8) (w : World) (hT : SzT w) (hn : n = l.length) (hc : n ≤ c) (hcm : c ≤ maxLen) (hR : Reads w w.heap.size 1 A n (vb l)) :
    Calls Tryd.prog 9 #[.slice A n c, .int .i64 p, .int .i64 k] w fun e w' => e = .returned (.bool true) ∧ New w w' := by
  have HG := Lib.hid (get_any A n c p k l w hT hn hc hcm hR)
  have HGR := Lib.hid (fun W hW => rget_any A n c p k l W hn (Nat.le_trans hc hcm) (hR.new hW))
  obtain ⟨x, hx⟩ : ∃ x : Int, ((getN l p k : Nat) : Int) = x := ⟨_, rfl⟩
  obtain ⟨y, hy⟩ : ∃ y : Int, errM l.length p k = y := ⟨_, rfl⟩
  rw [hx, hy] at HG HGR
  clear hx hy hn hR hc
  go_enter Tryd.func9, Tryd.ntmps9
  go_wp2_with (first
    | (go_at_call 15; (with_reducible refine HG.out.mono ?_); rintro e w1 ⟨rfl, hn1⟩; have HN1 := Lib.hid hn1; clear hn1)
    | (go_at_call 18; (with_reducible refine (HGR.out _ HN1.out).mono ?_); rintro e w2 ⟨rfl, hn2⟩; have HN2 := Lib.hid (New.then HN1.out hn2); clear hn2)
    | fail)
  go_ret
  exact ⟨rfl, HN2.out⟩

set_option maxRecDepth 100000 in
set_option maxHeartbeats 1000000 in
theorem sets_any (A : Option Addr) (n c : Nat) (p k : Int) (v : Nat) (l : List UInt8) (w : World) (hT : SzT w) (hn : n = l.length) (hm : n ≤ 1000000) (hv : v < 18446744073709551616) (hR : Reads w w.heap.size 1 A n (vb l)) :
    Calls Tryd.prog 11 #[.slice A n c, .int .i64 p, .int .i64 k, .int .u64 (v : Int)] w fun e w' => e = .returned (.bool true) ∧ New w w' := by
  have HL : Hid (Calls Tryd.prog 8 #[.slice A n c] w fun e w' => (e = .returned (.slice (some ⟨w.heap.size, 0, none⟩) n (n + 12)) ∧ Blk w' w.heap.size 5 (vb (l ++ marks 1 12)).toArray) ∧ New w w') := Lib.hid (by subst hn; exact lent_any A c l w (by omega) hR)
  have HS : Hid (∀ W, New w W → Blk W w.heap.size 5 (vb (l ++ marks 1 12)).toArray → Calls Tryd.prog 13 #[.slice (some ⟨w.heap.size, 0, none⟩) n (n + 12), .int .i64 p, .int .i64 k, .int .u64 (v : Int)] W fun e w' => e = .returned (.int .i64 (errM n p k)) ∧ Blk w' w.heap.size 5 (vb (setN n l p k v ++ marks 1 12)).toArray ∧ New w w') := Lib.hid (fun W hW hb => by
    have hml : (l ++ marks 1 12).length = n + 12 := by rw [List.length_append, marks_length, hn]
    refine (set_any w.heap.size (n + 12) n (n + 12) p k v (l ++ marks 1 12) W (hT.new hW) (by have := Bq.of hb; rwa [hml] at this) (by omega) (by omega) (by unfold maxLen; omega) hv).mono fun e w' h => ⟨h.1, ?_, ?_⟩
    · have h2 := h.2.1
      rw [setN_app hn] at h2
      have hl2 : (setN n l p k v ++ marks 1 12).length = n + 12 := by rw [List.length_append, marks_length, setN_len hn]
      rw [← hl2] at h2
      exact h2.full
    · exact ((Ch.of_new (S := fun j => j = w.heap.size) hW).then h.2.2 (fun _ _ e => e)).below (Nat.le_refl _) (fun j hj e => by have e' : j = w.heap.size := e; omega))
  have HR := Lib.hid (fun W hW => rset_any A n c p k v l W hn hm hv (hR.new hW))
  have HK : Hid (∀ W B d, Blk W w.heap.size 5 (vb (setN n l p k v ++ marks 1 12)).toArray → Reads W W.heap.size 1 B n (vb (setN n l p k v)) → Calls Tryd.prog 10 #[.slice (some ⟨w.heap.size, 0, none⟩) n (n + 12), .slice B n d] W fun e w' => e = .returned (.bool true) ∧ New W w') := Lib.hid (fun W B d hb hr => by
    have hl2 := setN_len (n := n) (l := l) (p := p) (k := k) (v := v) hn
    have h := kept_any w.heap.size B d (setN n l p k v) W (by omega) hb (by rw [hl2]; exact hr)
    rwa [hl2] at h)
  unfold RSetD at HR
  obtain ⟨y, hy⟩ : ∃ y : Int, errM n p k = y := ⟨_, rfl⟩
  obtain ⟨L, hL⟩ : ∃ L, setN n l p k v = L := ⟨_, rfl⟩
  rw [hy] at HS HR
  rw [hL] at HS HR HK
  clear hy hL hn hR hT
  go_enter Tryd.func11, Tryd.ntmps11
  go_wp2_with (first
    | (go_at_call 8; (with_reducible refine HL.out.mono ?_); rintro e w1 ⟨⟨rfl, hb1⟩, hn1⟩; have HB1 := Lib.hid hb1; have HN1 := Lib.hid hn1; clear hb1 hn1)
    | (go_at_call 13; (with_reducible refine (HS.out _ HN1.out HB1.out).mono ?_); rintro e w2 ⟨rfl, hb2, hn2⟩; have HB2 := Lib.hid hb2; have HN2 := Lib.hid hn2; clear hb2 hn2)
    | (go_at_call 19; (with_reducible refine (HR.out _ HN2.out).mono ?_); rintro e w3 ⟨A3, c3, rfl, hr3, hn3⟩; have HR3 := Lib.hid hr3; have HB3 := Lib.hid (HB2.out.below hn3 HB2.out.lt); have HN3 := Lib.hid (New.then HN2.out hn3); clear hr3 hn3)
    | (go_at_call 10; (with_reducible refine (HK.out _ _ _ HB3.out HR3.out).mono ?_); rintro e w4 ⟨rfl, hn4⟩; have HN4 := Lib.hid (New.then HN3.out hn4); clear hn4)
    | fail)
  go_ret
  exact ⟨rfl, HN4.out⟩

theorem nums_aw : getN [1, 2, 3] 0 2 = 258 ∧ getN [1, 2, 3] 1 2 = 515 ∧ errM 3 0 2 = 0 ∧ errM 3 1 2 = 0 ∧ errM 3 2 2 = 112 ∧ errM 3 0 3 = 2 ∧ errM 3 1 1 = 0 ∧ setN 3 [1, 2, 3] 1 1 511 = [1, 255, 3] ∧ getN [1, 2, 3] 2 2 = 0 ∧ getN [1, 2, 3] 0 3 = 0 := by decide +kernel
set_option maxRecDepth 100000 in
set_option maxHeartbeats 1000000 in
theorem awake_any (w : World) (hT : SzT w) : Calls Tryd.prog 7 #[] w fun e w' => e = .returned (.bool true) ∧ New w w' := by
  have hb0 : Bq (w.alloc (.cells #[.int .u8 1, .int .u8 2, .int .u8 3] 5)) w.heap.size 3 [1, 2, 3] := Bq.of (L := [1, 2, 3]) (Blk.new w 5 _)
  have hn0 := alloc_new w (.cells #[.int .u8 1, .int .u8 2, .int .u8 3] 5)
  obtain ⟨a1, a2, a3, a4, a5, a6, a7, a8, a9, a10⟩ := nums_aw
  have hG : ∀ W (p k : Int) (x : Nat) (y : Int), New w W → Bq W w.heap.size 3 [1, 2, 3] → getN [1, 2, 3] p k = x → errM 3 p k = y → Calls Tryd.prog 15 #[.slice (some ⟨w.heap.size, 0, none⟩) 3 3, .int .i64 p, .int .i64 k] W fun e w' => e = .returned (.tuple #[.int .u64 (x : Int), .int .i64 y]) ∧ New w w' ∧ Bq w' w.heap.size 3 [1, 2, 3] := fun W p k x y hW hb hx hy => by
    have h := get_any (some ⟨w.heap.size, 0, none⟩) 3 3 p k [1, 2, 3] W (hT.new hW) rfl (by decide) (by unfold maxLen; decide) (hb.reads 3 rfl)
    rw [hx, show ([1, 2, 3] : List UInt8).length = 3 from rfl, hy] at h
    exact h.mono fun e w' k => ⟨k.1, New.then hW k.2, hb.new k.2⟩
  have HG1 : Hid (∀ W, New w W → Bq W w.heap.size 3 [1, 2, 3] → Calls Tryd.prog 15 #[.slice (some ⟨w.heap.size, 0, none⟩) 3 3, .int .i64 0, .int .i64 2] W fun e w' => e = .returned (.tuple #[.int .u64 258, .int .i64 0]) ∧ New w w' ∧ Bq w' w.heap.size 3 [1, 2, 3]) := Lib.hid (fun W h1 h2 => hG W 0 2 258 0 h1 h2 a1 a3)
  have HG2 : Hid (∀ W, New w W → Bq W w.heap.size 3 [1, 2, 3] → Calls Tryd.prog 15 #[.slice (some ⟨w.heap.size, 0, none⟩) 3 3, .int .i64 1, .int .i64 2] W fun e w' => e = .returned (.tuple #[.int .u64 515, .int .i64 0]) ∧ New w w' ∧ Bq w' w.heap.size 3 [1, 2, 3]) := Lib.hid (fun W h1 h2 => hG W 1 2 515 0 h1 h2 a2 a4)
  have HG3 : Hid (∀ W, New w W → Bq W w.heap.size 3 [1, 2, 3] → Calls Tryd.prog 15 #[.slice (some ⟨w.heap.size, 0, none⟩) 3 3, .int .i64 2, .int .i64 2] W fun e w' => e = .returned (.tuple #[.int .u64 0, .int .i64 112]) ∧ New w w' ∧ Bq w' w.heap.size 3 [1, 2, 3]) := Lib.hid (fun W h1 h2 => hG W 2 2 0 112 h1 h2 a9 a5)
  have HG4 : Hid (∀ W, New w W → Bq W w.heap.size 3 [1, 2, 3] → Calls Tryd.prog 15 #[.slice (some ⟨w.heap.size, 0, none⟩) 3 3, .int .i64 0, .int .i64 3] W fun e w' => e = .returned (.tuple #[.int .u64 0, .int .i64 2]) ∧ New w w' ∧ Bq w' w.heap.size 3 [1, 2, 3]) := Lib.hid (fun W h1 h2 => hG W 0 3 0 2 h1 h2 a10 a6)
  have HS : Hid (∀ W, New w W → Bq W w.heap.size 3 [1, 2, 3] → Calls Tryd.prog 13 #[.slice (some ⟨w.heap.size, 0, none⟩) 3 3, .int .i64 1, .int .i64 1, .int .u64 511] W fun e w' => e = .returned (.int .i64 0) ∧ New w w' ∧ Bq w' w.heap.size 3 [1, 255, 3]) := Lib.hid (fun W h1 h2 => by
    have h := set_any w.heap.size 3 3 3 1 1 511 [1, 2, 3] W (hT.new h1) h2 (by decide) (by decide) (by unfold maxLen; decide) (by decide)
    rw [a7, a8] at h
    exact h.mono fun e w' k => ⟨k.1, ((Ch.of_new (S := fun j => j = w.heap.size) h1).then k.2.2 (fun _ _ e => e)).below (Nat.le_refl _) (fun j hj e => by have e' : j = w.heap.size := e; omega), k.2.1⟩)
  have HSB : Hid (∀ W, Bq W w.heap.size 3 [1, 255, 3] → Calls Tryd.prog 16 #[.slice (some ⟨w.heap.size, 0, none⟩) 3 3, .slice (some ⟨W.heap.size, 0, none⟩) 3 3] (W.alloc (.cells #[.int .u8 1, .int .u8 255, .int .u8 3] 5)) fun e w' => e = .returned (.bool true) ∧ New W w') := Lib.hid (fun W hb => by
    have n1 := alloc_new W (.cells #[.int .u8 1, .int .u8 255, .int .u8 3] 5)
    have hb2 : Bq (W.alloc (.cells #[.int .u8 1, .int .u8 255, .int .u8 3] 5)) W.heap.size 3 [1, 255, 3] := Bq.of (L := [1, 255, 3]) (Blk.new W 5 _)
    exact (same_any (some ⟨w.heap.size, 0, none⟩) (some ⟨W.heap.size, 0, none⟩) 3 3 [1, 255, 3] _ (by decide) ((hb.new n1).reads 3 rfl) (hb2.reads 3 rfl)).mono fun e w' k => ⟨k.1, New.then n1 k.2⟩)
  have HB0 := Lib.hid hb0
  have HN0 := Lib.hid hn0
  clear hb0 hn0 hG a1 a2 a3 a4 a5 a6 a7 a8 a9 a10
  go_enter Tryd.func7, Tryd.ntmps7
  go_wp2_with (first
    | (go_at_call 15; (with_reducible refine (HG1.out _ HN0.out HB0.out).mono ?_); rintro e w1 ⟨rfl, hn1, hb1⟩; have HN1 := Lib.hid hn1; have HB1 := Lib.hid hb1; clear hn1 hb1)
    | (go_at_call 15; (with_reducible refine (HG2.out _ HN1.out HB1.out).mono ?_); rintro e w2 ⟨rfl, hn2, hb2⟩; have HN2 := Lib.hid hn2; have HB2 := Lib.hid hb2; clear hn2 hb2)
    | (go_at_call 15; (with_reducible refine (HG3.out _ HN2.out HB2.out).mono ?_); rintro e w3 ⟨rfl, hn3, hb3⟩; have HN3 := Lib.hid hn3; have HB3 := Lib.hid hb3; clear hn3 hb3)
    | (go_at_call 15; (with_reducible refine (HG4.out _ HN3.out HB3.out).mono ?_); rintro e w4 ⟨rfl, hn4, hb4⟩; have HN4 := Lib.hid hn4; have HB4 := Lib.hid hb4; clear hn4 hb4)
    | (go_at_call 13; (with_reducible refine (HS.out _ HN4.out HB4.out).mono ?_); rintro e w5 ⟨rfl, hn5, hb5⟩; have HN5 := Lib.hid hn5; have HB5 := Lib.hid hb5; clear hn5 hb5)
    | (go_at_call 16; (with_reducible refine (HSB.out _ HB5.out).mono ?_); rintro e w6 ⟨rfl, hn6⟩; have HN6 := Lib.hid (New.then HN5.out hn6); clear hn6)
    | fail)
  go_ret
  exact ⟨rfl, HN6.out⟩

set_option maxRecDepth 100000 in
set_option maxHeartbeats 1000000 in
theorem PacketGets_any (A : Option Addr) (n c : Nat) (p k : Int) (l : List UInt8) (w : World) (hT : SzT w) (hn : n = l.length) (hc : n ≤ c) (hcm : c ≤ maxLen) (hR : Reads w w.heap.size 1 A n (vb l)) :
    Calls Tryd.prog 3 #[.slice A n c, .int .i64 p, .int .i64 k] w fun e w' => e = .returned (.bool true) ∧ New w w' := by
  have HAW := Lib.hid (fun W hW => awake_any W (hT.new (w' := W) hW))
  by_cases hm : 70000 < n
  · have t1 : (70000 : Int) < (n : Int) := by omega
    clear hn hR hc
    go_enter Tryd.func3, Tryd.ntmps3
    go_wp2_with (go_at_call 7; (with_reducible refine (HAW.out _ (new_refl w)).mono ?_); rintro e w1 ⟨rfl, hn1⟩; have HN1 := Lib.hid hn1; clear hn1)
    go_ret
    exact ⟨rfl, HN1.out⟩
  · have t1 : ¬ (70000 : Int) < (n : Int) := by omega
    have HL : Hid (Calls Tryd.prog 8 #[.slice A n c] w fun e w' => (e = .returned (.slice (some ⟨w.heap.size, 0, none⟩) n (n + 12)) ∧ Blk w' w.heap.size 5 (vb (l ++ marks 1 12)).toArray) ∧ New w w') := Lib.hid (by subst hn; exact lent_any A c l w (by omega) hR)
    have HG : Hid (∀ W, New w W → Blk W w.heap.size 5 (vb (l ++ marks 1 12)).toArray → Calls Tryd.prog 9 #[.slice (some ⟨w.heap.size, 0, none⟩) n (n + 12), .int .i64 p, .int .i64 k] W fun e w' => e = .returned (.bool true) ∧ New W w') := Lib.hid (fun W hW hb => by
      refine gets_any _ n (n + 12) p k l W (hT.new hW) hn (by omega) (by unfold maxLen; omega) ?_
      have hr := (Bq.of hb).reads (l ++ marks 1 12).length rfl
      refine ⟨by rw [vb_length, Nat.mul_one, hn], fun h0 => ?_⟩
      obtain ⟨ad, e, hlt, hcc⟩ := hr.2 (by rw [List.length_append]; omega)
      refine ⟨ad, e, hlt, fun j u hu => hcc j u ?_⟩
      have hj : j < l.length := by have := (List.getElem?_eq_some_iff.1 hu).1; rwa [vb_length] at this
      rw [vb_append, List.getElem?_append_left (by rw [vb_length]; exact hj)]
      exact hu)
    have HK : Hid (∀ W, New w W → Blk W w.heap.size 5 (vb (l ++ marks 1 12)).toArray → Calls Tryd.prog 10 #[.slice (some ⟨w.heap.size, 0, none⟩) n (n + 12), .slice A n c] W fun e w' => e = .returned (.bool true) ∧ New W w') := Lib.hid (fun W hW hb => by
      have h := kept_any w.heap.size A c l W (by omega) hb (by rw [← hn]; exact hR.new hW)
      rwa [← hn] at h)
    clear hn hR hc
    go_enter Tryd.func3, Tryd.ntmps3
    go_wp2_with (first
      | (go_at_call 8; (with_reducible refine HL.out.mono ?_); rintro e w1 ⟨⟨rfl, hb1⟩, hn1⟩; have HB1 := Lib.hid hb1; have HN1 := Lib.hid hn1; clear hb1 hn1)
      | (go_at_call 9; (with_reducible refine (HG.out _ HN1.out HB1.out).mono ?_); rintro e w2 ⟨rfl, hn2⟩; have HB2 := Lib.hid (HB1.out.below hn2 HB1.out.lt); have HN2 := Lib.hid (New.then HN1.out hn2); clear hn2)
      | (go_at_call 10; (with_reducible refine (HK.out _ HN2.out HB2.out).mono ?_); rintro e w3 ⟨rfl, hn3⟩; have HN3 := Lib.hid (New.then HN2.out hn3); clear hn3)
      | (go_at_call 7; (with_reducible refine (HAW.out _ HN3.out).mono ?_); rintro e w4 ⟨rfl, hn4⟩; have HN4 := Lib.hid (New.then HN3.out hn4); clear hn4)
      | fail)
    go_ret
    exact ⟨rfl, HN4.out⟩
set_option maxRecDepth 100000 in
set_option maxHeartbeats 1000000 in
theorem PacketSets_any (A : Option Addr) (n c : Nat) (p k : Int) (v : Nat) (l : List UInt8) (w : World) (hT : SzT w) (hn : n = l.length) (hv : v < 18446744073709551616) (hR : Reads w w.heap.size 1 A n (vb l)) :
    Calls Tryd.prog 4 #[.slice A n c, .int .i64 p, .int .i64 k, .int .u64 (v : Int)] w fun e w' => e = .returned (.bool true) ∧ New w w' := by
  have HAW := Lib.hid (fun W hW => awake_any W (hT.new (w' := W) hW))
  by_cases hm : 70000 < n
  · have t1 : (70000 : Int) < (n : Int) := by omega
    clear hn hR
    go_enter Tryd.func4, Tryd.ntmps4
    go_wp2_with (go_at_call 7; (with_reducible refine (HAW.out _ (new_refl w)).mono ?_); rintro e w1 ⟨rfl, hn1⟩; have HN1 := Lib.hid hn1; clear hn1)
    go_ret
    exact ⟨rfl, HN1.out⟩
  · have t1 : ¬ (70000 : Int) < (n : Int) := by omega
    have HS := Lib.hid (sets_any A n c p k v l w hT hn (by omega) hv hR)
    clear hn hR
    go_enter Tryd.func4, Tryd.ntmps4
    go_wp2_with (first
      | (go_at_call 11; (with_reducible refine HS.out.mono ?_); rintro e w2 ⟨rfl, hn2⟩; have HN2 := Lib.hid hn2; clear hn2)
      | (go_at_call 7; (with_reducible refine (HAW.out _ HN2.out).mono ?_); rintro e w4 ⟨rfl, hn4⟩; have HN4 := Lib.hid (New.then HN2.out hn4); clear hn4)
      | fail)
    go_ret
    exact ⟨rfl, HN4.out⟩
end Go.Proofs.YtgddfclclibcgaaDoor.pk
