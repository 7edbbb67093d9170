/-
  The document's answer for ins: Put.
-/
import Derived.Test.YtmkonhfgmkdhoaaDoorInsAA
namespace Go.Proofs.YtmkonhfgmkdhoaaDoor.ins
open Go.RowKit Go.Proofs.YtmkonhfgmkdhoaaDoor.mem Go.Proofs.YtmkonhfgmkdhoaaDoor.kit
set_option linter.unusedVariables false

theorem rright_x (o : Int) (n : Bool) (d s : Int) (u : Bool) (f m z : Int) (B : Bool) (h : ok ⟨o, n, d, s, u, f, m, z⟩ = B) (w : World) :
    Calls Tryd.prog 21 #[.agg #[.int .u8 o, .bool n, .int .i64 d, .int .i64 s, .bool u, .int .i64 f, .int .i64 m, .int .i64 z]] w fun e w' => e = .returned (.bool B) ∧ New w w' := h ▸ RRight_any ⟨o, n, d, s, u, f, m, z⟩ w
theorem rbytes_x (o : Int) (n : Bool) (d s : Int) (u : Bool) (f m z : Int) (l : List UInt8) (h : ok ⟨o, n, d, s, u, f, m, z⟩ = true) (hl : bs ⟨o, n, d, s, u, f, m, z⟩ = l) (w : World) :
    Calls Tryd.prog 22 #[.agg #[.int .u8 o, .bool n, .int .i64 d, .int .i64 s, .bool u, .int .i64 f, .int .i64 m, .int .i64 z]] w fun e w' => ∃ g, e = .returned (.slice (some ⟨g, 0, none⟩) 8 8) ∧ (w.heap.size ≤ g ∧ Reads w' w'.heap.size 1 (some ⟨g, 0, none⟩) 8 (vb l)) ∧ New w w' :=
  (rbytes_any ⟨o, n, d, s, u, f, m, z⟩ w h).mono fun e w' hh => by
    obtain ⟨g, he, hg, hb, hn⟩ := hh
    rw [hl] at hb
    have h8 : l.length = 8 := by rw [← hl]; rfl
    refine ⟨g, he, ⟨hg, by rw [vb_length, h8], fun _ => ⟨_, rfl, hb.lt, fun j v hv => ?_⟩⟩, hn⟩
    rw [Addr.add_lit, Nat.zero_add, hb.cell j, List.getElem?_toArray, hv]

set_option maxRecDepth 100000 in
set_option maxHeartbeats 2000000 in
theorem rput_any (A : Option Addr) (n c : Nat) (l : List In) (w : World) (hn : n = l.length) (hl : n ≤ 1099511627776) (hA : RI w A l) :
    Calls Tryd.prog 9 #[.slice A n c] w (PutD w l) := by
  obtain ⟨i0, hi, hz0, hz1, hz2⟩ := info_parts byte_info
  have HN := Lib.hid hn
  have HA := Lib.hid hA
  clear hn hA
  by_cases hg : 4096 < n
  · have HG := Lib.hid (put_long (l := l) (by have := HN.out; omega))
    go_enter Tryd.func9, Tryd.ntmps9
    go_wp2
    go_ret2
    exact putD_no HG.out.1 HG.out.2 (new_refl w)
  · go_enter Tryd.func9, Tryd.ntmps9
    go_wp2
    go_loopw [4, 5] (fun v i wr => ∃ k : Nat, k ≤ n ∧ i = .int .i64 k ∧ (l.take k).all ok = true ∧ wr.ownsRow w.heap.size 5 1 v (8 * k) (vb (flat (l.take k))) ∧ New w wr) (fun _ i _ => n - (intOf i).toNat)
    case atStart => exact ⟨0, Nat.zero_le _, rfl, rfl, World.ownsRow_nil _ _ _ _, new_refl _⟩
    case round =>
      obtain ⟨k, hk, rfl, hall, hown, hnw⟩ := hrel
      have HNW := Lib.hid hnw
      have HALL := Lib.hid hall
      have HOWN := Lib.hid hown
      clear hnw hall hown
      by_cases hlt : k < n
      · have hlf : k < l.length := by have := HN.out; omega
        obtain ⟨g, o, rfl, hgb, ha⟩ := HA.out.at_ hlf
        obtain ⟨x, hx⟩ : ∃ x, l[k] = x := ⟨_, rfl⟩
        rw [hx] at ha
        have HX := Lib.hid hx
        clear hx
        obtain ⟨ox, nx, dx, sx, ux, fx, mx, zx⟩ := x
        have HAT := Lib.hid (ha.new hgb HNW.out)
        have HGB : Hid (g < wr.heap.size) := Lib.hid (by have := HNW.out.size; omega)
        obtain ⟨a0, a1, a2, a3, a4, a5, a6, a7⟩ := HAT.out
        simp only at a0 a1 a2 a3 a4 a5 a6 a7
        clear ha hgb
        obtain ⟨B, hB⟩ : ∃ B, ok ⟨ox, nx, dx, sx, ux, fx, mx, zx⟩ = B := ⟨_, rfl⟩
        have HB := Lib.hid hB
        clear hB
        rcases B with _ | _
        · go_wp2_with (go_at_call 21; refine (rright_x _ _ _ _ _ _ _ _ false HB.out _).mono ?_; rintro e w2 ⟨rfl, hn2⟩)
          have H := put_bad (l := l) (by have := HN.out; omega) k hlf (by rw [HX.out]; exact HB.out)
          have HH := Lib.hid H
          clear H
          have hnn := New.then HNW.out hn2
          go_ret2
          exact putD_no HH.out.1 HH.out.2 hnn
        · obtain ⟨y, hy⟩ : ∃ y, bs ⟨ox, nx, dx, sx, ux, fx, mx, zx⟩ = y := ⟨_, rfl⟩
          have HY := Lib.hid hy
          clear hy
          go_wp2_with (go_at_call 21; refine (rright_x _ _ _ _ _ _ _ _ true HB.out _).mono ?_; rintro e w2 ⟨rfl, hn2⟩; obtain ⟨x0, x1, x2, x3, x4, x5, x6, x7⟩ := HAT.out.new HGB.out hn2; simp only at x0 x1 x2 x3 x4 x5 x6 x7; have HN2 := Lib.hid (New.then HNW.out hn2); have HO2 := Lib.hid (own_new HOWN.out hn2); clear hn2 a0 a1 a2 a3 a4 a5 a6 a7)
          go_wp2_with (first
            | (go_at_call 22; refine (rbytes_x _ _ _ _ _ _ _ _ y HB.out HY.out _).mono ?_; rintro e w3 ⟨g3, rfl, ⟨hg3, hr3⟩, hn3⟩; have HR3 := Lib.hid hr3; have HN3 := Lib.hid (New.then HN2.out hn3); have HO3 := Lib.hid (own_new HO2.out hn3); clear hr3 hn3)
            | (at_builtin; refine wpList_append_any _ rfl (.tmp 21) (.tmp 26) 23 rfl w.heap.size 5 i0 _ 1 1 Tryd.underlying23 hi hz0 hz1 hz2 rfl (by omega) _ _ _ rfl HO3.out _ _ _ _ _ rfl HR3.out (vb_one _) (by unfold maxLen; omega) (by omega) (by have := HN3.out.size; omega) ?_; intro v4 w4 hown4 hg4 hat4))
          have hN4 : New w w4 := HN3.out.grown hg4 HN3.out.size (fun j hj => (HO3.out.lt j hj).1)
          have e4 : vb (flat (l.take k)) ++ vb y = vb (flat (l.take (k + 1))) := by rw [flat_take l k hlf, HX.out, HY.out, vb_append]
          rw [e4, show 8 * k + 8 = 8 * (k + 1) by omega] at hown4
          have hall4 := all_snoc l k hlf HALL.out (by rw [HX.out]; exact HB.out)
          clear e4
          go_roundw
          case rel => exact ⟨k + 1, by omega, by go_num, hall4, hown4, hN4⟩
          case measure => simp [intOf]; omega
      · obtain rfl : k = n := by omega
        have h1 := HALL.out
        have h2 := HOWN.out
        have hn := HN.out
        rw [hn, List.take_length] at h1 h2
        have hE : putE l = 0 := by simp only [putE]; rw [if_neg (by omega), if_pos h1]
        have hB : putB l = flat l := by simp only [putB]; rw [if_neg (by omega), if_pos h1]
        rw [← flat_length, ← hB] at h2
        have HE := Lib.hid hE
        have H2 := Lib.hid h2
        have hnw := HNW.out
        clear h1 h2 hE hB hn
        go_wp2
        go_ret2
        obtain ⟨A', c', rfl, -, -, -⟩ := own_len H2.out
        exact ⟨A', c', ret_pair HE.out.symm, H2.out, hnw⟩
end Go.Proofs.YtmkonhfgmkdhoaaDoor.ins
