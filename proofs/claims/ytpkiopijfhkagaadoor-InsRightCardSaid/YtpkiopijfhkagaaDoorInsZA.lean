/-
  InsRight, walked.
-/
import Derived.Test.YtpkiopijfhkagaaDoorInsZ
import Derived.Test.YtpkiopijfhkagaaDoorInsO
import Derived.Test.YtpkiopijfhkagaaDoorInsX
namespace Go.Proofs.YtpkiopijfhkagaaDoor.ins
open Go.RowKit Go.Proofs.YtpkiopijfhkagaaDoor.mem Go.Proofs.YtpkiopijfhkagaaDoor.kit
set_option linter.unusedVariables false

theorem rjumps_x (o : Int) (n : Bool) (d s : Int) (u : Bool) (f m z : Int) (B : Bool) (h : jumps ⟨o, n, d, s, u, f, m, z⟩ = B) (w : World) :
    Calls Tryd.prog 33 #[.agg #[.int .u8 o, .bool n, .int .i64 d, .int .i64 s, .bool u, .int .i64 f, .int .i64 m, .int .i64 z]] w fun e w' => e = .returned (.bool B) ∧ New w w' := h ▸ RJumps_any ⟨o, n, d, s, u, f, m, z⟩ w
theorem nx_len (l : List In) (k : Int) : (nx l k).length ≤ 2 := by
  unfold nx
  split
  · split
    · simp
    · split
      · split
        · simp
        · split
          · simp
          · split
            · simp
            · split <;> simp
      · simp
  · simp
theorem next_r (A : Option Addr) (n c : Nat) (l : List In) (k : Int) (r : List Int) (hr : nx l k = r) (w : World) (hn : n = l.length) (hl : n ≤ 1099511627776) (hA : RI w A l) : Calls Tryd.prog 35 #[.slice A n c, .int .i64 k] w fun e w' => ∃ A c, e = .returned (.slice A r.length c) ∧ Reads w' w'.heap.size 1 A r.length (vn r) ∧ New w w' := by
  subst hr
  exact next_any A n c l k w hn hl hA
theorem rnext_r (A : Option Addr) (n c : Nat) (l : List In) (k : Int) (r : List Int) (hr : nx l k = r) (w : World) (hn : n = l.length) (hl : n ≤ 1099511627776) (hA : RI w A l) : Calls Tryd.prog 36 #[.slice A n c, .int .i64 k] w fun e w' => ∃ A c, e = .returned (.slice A r.length c) ∧ Reads w' w'.heap.size 1 A r.length (vn r) ∧ New w w' := by
  subst hr
  exact rnext_any A n c l k w hn hl hA
theorem lentI_reads {w : World} {g : Nat} {l m : List In} (h : Blk w g 47 (vi (l ++ m)).toArray) : RI w (some ⟨g, 0, none⟩) l :=
  ⟨vi_length _, fun _ => ⟨_, rfl, h.lt, fun j u hu => by
    rw [Addr.add_lit, Nat.zero_add, h.cell j, List.getElem?_toArray, vi_append, List.getElem?_append_left (List.getElem?_eq_some_iff.1 hu).1]
    exact hu⟩⟩

set_option maxRecDepth 100000 in
set_option maxHeartbeats 20000000 in
theorem InsRight_any (A0 : Option Addr) (n c0 : Nat) (z : Int) (l : List In) (w : World) (hn : n = l.length) (hc0 : n ≤ c0 ∧ c0 ≤ maxLen) (hA : RI w A0 l) (hT : TAt w) :
    Calls Tryd.prog 4 #[.slice A0 n c0, .int .i64 z] w fun e w' => e = .returned (.bool true) ∧ New w w' := by
  have HN := Lib.hid hn
  have HA := Lib.hid hA
  have HT := Lib.hid hT
  have b0 : n ≤ 9223372036854775807 := by have := hc0; unfold maxLen at this; omega
  clear hn hA hT hc0
  by_cases h4 : 400 < n
  · have t1 : (400 : Int) < (n : Int) := by omega
    go_enter Tryd.func4, Tryd.ntmps4
    go_wp2_with (go_at_call 29; refine (awake_any _ HT.out).mono ?_; rintro e w1 ⟨rfl, hn1⟩)
    go_ret
    exact ⟨rfl, hn1⟩
  · have t1 : ¬ (400 : Int) < (n : Int) := by omega
    have n4 : n ≤ 400 := by omega
    clear h4
    go_enter Tryd.func4, Tryd.ntmps4
    go_wp2_with (go_at_call 29; refine (awake_any _ HT.out).mono ?_; rintro e w1 ⟨rfl, hn1⟩; have HN1 := Lib.hid hn1; clear hn1)
    go_loopw [5] (fun i wr => ∃ k : Nat, k ≤ n ∧ i = .int .i64 k ∧ New w wr) (fun i _ => n - (intOf i).toNat)
    case atStart => exact ⟨0, Nat.zero_le _, rfl, HN1.out⟩
    case round =>
      clear HN1
      obtain ⟨k, hk, rfl, hnw⟩ := hrel
      have HNW := Lib.hid hnw
      clear hnw
      by_cases hlt : k < n
      · have hlf : k < l.length := by have := HN.out; omega
        obtain ⟨g, o, hA0, hgb, ha⟩ := HA.out.at_ hlf
        obtain ⟨r, hr⟩ : ∃ r, nx l (k : Int) = r := ⟨_, rfl⟩
        obtain ⟨x, hx⟩ : ∃ x, l[k] = x := ⟨_, rfl⟩
        rw [hx] at ha
        clear hx
        subst hA0
        have HR := Lib.hid hr
        have hrl : r.length ≤ 1099511627776 := by have := nx_len l (k : Int); rw [hr] at this; omega
        have HRL := Lib.hid hrl
        obtain ⟨ox, nx, dx, sx, ux, fx, mx, zx⟩ := x
        have HAT := Lib.hid ha
        obtain ⟨a0, a1, a2, a3, a4, a5, a6, a7⟩ := ha.new hgb HNW.out
        simp only at a0 a1 a2 a3 a4 a5 a6 a7
        obtain ⟨B, hB⟩ : ∃ B, ok ⟨ox, nx, dx, sx, ux, fx, mx, zx⟩ = B := ⟨_, rfl⟩
        obtain ⟨J, hJ⟩ : ∃ J, jumps ⟨ox, nx, dx, sx, ux, fx, mx, zx⟩ = J := ⟨_, rfl⟩
        have HB := Lib.hid hB
        have HJ := Lib.hid hJ
        clear ha hr hrl hB hJ
        have HNZ := HNW
        go_wp2_with fail
        go_region_held3 (fun w' => w'.cell? ⟨g, o + k * 8, none⟩ = some (.int .u8 ox) ∧ w'.cell? ⟨g, o + k * 8 + 1, none⟩ = some (.bool nx) ∧ w'.cell? ⟨g, o + k * 8 + 2, none⟩ = some (.int .i64 dx) ∧ w'.cell? ⟨g, o + k * 8 + 3, none⟩ = some (.int .i64 sx) ∧ w'.cell? ⟨g, o + k * 8 + 4, none⟩ = some (.bool ux) ∧ w'.cell? ⟨g, o + k * 8 + 5, none⟩ = some (.int .i64 fx) ∧ w'.cell? ⟨g, o + k * 8 + 6, none⟩ = some (.int .i64 mx) ∧ w'.cell? ⟨g, o + k * 8 + 7, none⟩ = some (.int .i64 zx))
          (first | go_keep | exact ⟨a0, a1, a2, a3, a4, a5, a6, a7⟩)
          (first
            | (go_at_call 30; (with_reducible refine (right_x _ _ _ _ _ _ _ _ B HB.out _).mono ?_); rintro e wz ⟨rfl, hnz⟩; have HNZ := Lib.hid (show New w wz from by first | exact New.then HNZ.out hnz | exact New.then (Below.drew HNZ.out) hnz); clear hnz; obtain ⟨a0, a1, a2, a3, a4, a5, a6, a7⟩ := HAT.out.new hgb HNZ.out)
            | (go_at_call 31; (with_reducible refine (rright_x _ _ _ _ _ _ _ _ B HB.out _).mono ?_); rintro e wz ⟨rfl, hnz⟩; have HNZ := Lib.hid (show New w wz from by first | exact New.then HNZ.out hnz | exact New.then (Below.drew HNZ.out) hnz); clear hnz; obtain ⟨a0, a1, a2, a3, a4, a5, a6, a7⟩ := HAT.out.new hgb HNZ.out)
            | (go_at_call 32; (with_reducible refine (jumps_x _ _ _ _ _ _ _ _ J HJ.out _).mono ?_); rintro e wz ⟨rfl, hnz⟩; have HNZ := Lib.hid (show New w wz from by first | exact New.then HNZ.out hnz | exact New.then (Below.drew HNZ.out) hnz); clear hnz; obtain ⟨a0, a1, a2, a3, a4, a5, a6, a7⟩ := HAT.out.new hgb HNZ.out)
            | (go_at_call 33; (with_reducible refine (rjumps_x _ _ _ _ _ _ _ _ J HJ.out _).mono ?_); rintro e wz ⟨rfl, hnz⟩; have HNZ := Lib.hid (show New w wz from by first | exact New.then HNZ.out hnz | exact New.then (Below.drew HNZ.out) hnz); clear hnz; obtain ⟨a0, a1, a2, a3, a4, a5, a6, a7⟩ := HAT.out.new hgb HNZ.out)
            | (go_at_call 35; (with_reducible refine (next_r (some ⟨g, o, none⟩) n c0 l (k : Int) r HR.out _ HN.out (by omega) (HA.out.new HNZ.out)).mono ?_); rintro e wz ⟨A7, c7, rfl, hr7, hnz⟩; have HR7 := Lib.hid hr7; clear hr7; (first | (have HR8 := Lib.hid (HR8.out.new hnz)) | skip); have HNZ := Lib.hid (show New w wz from by first | exact New.then HNZ.out hnz | exact New.then (Below.drew HNZ.out) hnz); clear hnz; obtain ⟨a0, a1, a2, a3, a4, a5, a6, a7⟩ := HAT.out.new hgb HNZ.out)
            | (go_at_call 36; (with_reducible refine (rnext_r (some ⟨g, o, none⟩) n c0 l (k : Int) r HR.out _ HN.out (by omega) (HA.out.new HNZ.out)).mono ?_); rintro e wz ⟨A8, c8, rfl, hr8, hnz⟩; have HR8 := Lib.hid hr8; clear hr8; (first | (have HR7 := Lib.hid (HR7.out.new hnz)) | skip); have HNZ := Lib.hid (show New w wz from by first | exact New.then HNZ.out hnz | exact New.then (Below.drew HNZ.out) hnz); clear hnz; obtain ⟨a0, a1, a2, a3, a4, a5, a6, a7⟩ := HAT.out.new hgb HNZ.out)
            | (go_at_call 34; (with_reducible refine (sameInts_any _ _ _ _ r _ HRL.out HR7.out HR8.out).mono ?_); rintro e wz ⟨rfl, hnz⟩; have HNZ := Lib.hid (show New w wz from by first | exact New.then HNZ.out hnz | exact New.then (Below.drew HNZ.out) hnz); clear hnz; obtain ⟨a0, a1, a2, a3, a4, a5, a6, a7⟩ := HAT.out.new hgb HNZ.out))
        all_goals go_wp2_with fail
        all_goals go_roundw
        case rel => exact ⟨k + 1, by omega, by go_num, HNZ.out⟩
        case measure => simp [intOf]; omega
      · obtain rfl : k = n := by omega
        obtain ⟨r, hr⟩ : ∃ r, nx l z = r := ⟨_, rfl⟩
        have hrl : r.length ≤ 1099511627776 := by have := nx_len l z; rw [hr] at this; omega
        have HR := Lib.hid hr
        have HRL := Lib.hid hrl
        clear hr hrl
        go_wp2_with (first
          | (go_at_call 37; (with_reducible refine (lentIns_any A0 k c0 l _ (by omega) HN.out (HA.out.new HNW.out)).mono ?_); rintro e w2 ⟨⟨rfl, hb2⟩, hn2⟩; have HB2 := Lib.hid hb2; have HN2 := Lib.hid (New.then HNW.out hn2); clear hb2 hn2)
          | (go_at_call 35; (with_reducible refine (next_r _ k _ l z r HR.out _ HN.out (by omega) (lentI_reads HB2.out)).mono ?_); rintro e w3 ⟨A7, c7, rfl, hr7, hn3⟩; have HR7 := Lib.hid hr7; have HN3 := Lib.hid (New.then HN2.out hn3); have HB3 := Lib.hid (HB2.out.below hn3 HB2.out.lt); clear hr7 hn3)
          | (go_at_call 36; (with_reducible refine (rnext_r A0 k c0 l z r HR.out _ HN.out (by omega) (HA.out.new HN3.out)).mono ?_); rintro e w4 ⟨A8, c8, rfl, hr8, hn4⟩; have HR8 := Lib.hid hr8; have HR7b := Lib.hid (HR7.out.new hn4); have HN4 := Lib.hid (New.then HN3.out hn4); have HB4 := Lib.hid (HB3.out.below hn4 HB3.out.lt); clear hr8 hn4)
          | (go_at_call 34; (with_reducible refine (sameInts_any _ _ _ _ r _ HRL.out HR7b.out HR8.out).mono ?_); rintro e w5 ⟨rfl, hn5⟩; have HN5 := Lib.hid (New.then HN4.out hn5); have HB5 := Lib.hid (HB4.out.below hn5 HB4.out.lt); clear hn5)
          | (go_at_call 38; (with_reducible refine (keptIns_any _ A0 k c0 l _ (by omega) HN.out HB5.out (HA.out.new HN5.out)).mono ?_); rintro e w6 ⟨rfl, hn6⟩))
        go_ret
        exact ⟨rfl, New.then HN5.out hn6⟩
end Go.Proofs.YtpkiopijfhkagaaDoor.ins
