/-
  The frames' laws: same.
-/
import Derived.Test.YtdbolkmhmgbgfaaOwn
namespace Go.Proofs.Ytdbolkmhmgbgfaa.fr
open Go.RowKit Go.Proofs.Ytdbolkmhmgbgfaa.mem Go.Proofs.Ytdbolkmhmgbgfaa.kit Go.Proofs.Ytdbolkmhmgbgfaa.wire Go.Proofs.Ytdbolkmhmgbgfaa.crc
set_option linter.unusedVariables false

set_option maxRecDepth 100000 in
set_option maxHeartbeats 2000000 in
theorem same_frames (A B : Option Addr) (n c d : Nat) (gs fs : List Fi) (w : World) (hn : n = gs.length) (hm : n = fs.length) (hnl : n ≤ 1099511627776) (hkd : gs.map Fi.kd = fs.map Fi.kd) (hdl : ∀ i (h : i < fs.length), fs[i].data.length ≤ 1099511627776) (hA : FrArr w A gs) (hB : FrOf w B fs) :
    Calls Try.prog 22 #[.slice A n c, .slice B n d] w fun e w' => e = .returned (.bool true) ∧ New w w' := by
  have HA := Lib.hid hA
  have HB := Lib.hid hB
  have HN := Lib.hid hn
  have HM := Lib.hid hm
  have HD := Lib.hid hdl
  have HKD := Lib.hid hkd
  clear hA hB hn hm hdl hkd
  go_enter Try.func22, Try.ntmps22
  go_wp2
  go_loopw [5] (fun i wr => ∃ k : Nat, k ≤ n ∧ i = .int .i64 k ∧ New w wr) (fun i _ => n - (intOf i).toNat)
  case atStart => exact ⟨0, Nat.zero_le _, rfl, new_refl _⟩
  case round =>
    obtain ⟨k, hk, rfl, hnw⟩ := hrel
    have HNW := Lib.hid hnw
    clear hnw
    by_cases hlt : k < n
    · have hlg : k < gs.length := by have := HN.out; omega
      have hlf : k < fs.length := by have := HM.out; omega
      obtain ⟨g, rfl, hg, g0, g1, hrg⟩ := HA.out k hlg
      obtain ⟨f, o, rfl, hf, f0, f1, hrf⟩ := HB.out k hlf
      have hdk := HD.out k hlf
      have e : Fi.kd gs[k] = Fi.kd fs[k] := by
        have h := congrArg (fun l => l[k]?) HKD.out
        simpa [List.getElem?_map, List.getElem?_eq_getElem hlg, List.getElem?_eq_getElem hlf] using h
      obtain ⟨x, hx⟩ : ∃ x, gs[k] = x := ⟨_, rfl⟩
      obtain ⟨y, hy⟩ : ∃ y, fs[k] = y := ⟨_, rfl⟩
      rw [hx] at g0 g1 hrg e
      rw [hy] at f0 f1 hrf e hdk
      simp only [Fi.kd, Prod.mk.injEq] at e
      obtain ⟨e1, e2⟩ := e
      rw [e1] at g0
      rw [e2] at g1 hrg
      have k0 := (HNW.out.cell (p := ⟨g, k * 2, none⟩) hg).trans g0
      have k1 := (HNW.out.cell (p := ⟨g, k * 2 + 1, none⟩) hg).trans g1
      have k2 := (HNW.out.cell (p := ⟨f, o + k * 2, none⟩) hf).trans f0
      have k3 := (HNW.out.cell (p := ⟨f, o + k * 2 + 1, none⟩) hf).trans f1
      have HS := Lib.hid (same_any x.A y.A x.c y.c y.data wr.drew hdk (hrg.new (Below.drew HNW.out)) (hrf.new (Below.drew HNW.out)))
      have HG := Lib.hid hg
      have HF := Lib.hid hf
      have HG0 := Lib.hid g0
      have HG1 := Lib.hid g1
      have HF0 := Lib.hid f0
      have HF1 := Lib.hid f1
      have hN0 : New w wr.drew := Below.drew HNW.out
      obtain ⟨dl, hdl⟩ : ∃ dl, y.data.length = dl := ⟨_, rfl⟩
      rw [hdl] at k1 k3 HS HG1 HF1
      obtain ⟨q, hq⟩ : ∃ q, y.kind = q := ⟨_, rfl⟩
      rw [hq] at k0 k2 HG0 HF0
      clear g0 g1 f0 f1 hrg hrf hdk hx hy e1 e2 hg hf hdl hq
      go_wp2
      go_region_held3 (fun w' => w'.cell? ⟨g, k * 2, none⟩ = some (.int .i64 q) ∧ w'.cell? ⟨g, k * 2 + 1, none⟩ = some (.slice x.A dl x.c) ∧ w'.cell? ⟨f, o + k * 2, none⟩ = some (.int .i64 q) ∧ w'.cell? ⟨f, o + k * 2 + 1, none⟩ = some (.slice y.A dl y.c))
        (go_keep)
        (first | (go_at_call 14; (with_reducible refine HS.out.mono ?_); rintro e w7 ⟨rfl, hn7⟩; have hN7 := New.then hN0 hn7; have s0 := (hN7.cell (p := ⟨g, k * 2, none⟩) HG.out).trans HG0.out; have s1 := (hN7.cell (p := ⟨g, k * 2 + 1, none⟩) HG.out).trans HG1.out; have s2 := (hN7.cell (p := ⟨f, o + k * 2, none⟩) HF.out).trans HF0.out; have s3 := (hN7.cell (p := ⟨f, o + k * 2 + 1, none⟩) HF.out).trans HF1.out))
      go_wp2_with fail
      go_roundw
      case rel => exact ⟨k + 1, by omega, by go_num, hN7⟩
      case measure => simp [intOf]; omega
    · obtain rfl : k = n := by omega
      have hnw := HNW.out
      go_wp2
      go_ret
      exact ⟨rfl, hnw⟩
end Go.Proofs.Ytdbolkmhmgbgfaa.fr
