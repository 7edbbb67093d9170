/-
  The document's Put.
-/
import Derived.Test.YtlbbhheaginddaaRefF
import Derived.Test.YtlbbhheaginddaaPutH
namespace Go.Proofs.Ytlbbhheaginddaa.fr
open Go.RowKit Go.Proofs.Ytlbbhheaginddaa.mem Go.Proofs.Ytlbbhheaginddaa.kit Go.Proofs.Ytlbbhheaginddaa.wire Go.Proofs.Ytlbbhheaginddaa.crc
set_option linter.unusedVariables false

def fby (fs : List Fi) (k : Nat) : List UInt8 := fbs ((fs.take k).map Fi.fr)
theorem fby_zero (fs : List Fi) : fby fs 0 = [] := by simp [fby, fbs_nil]
theorem fby_succ (fs : List Fi) (k : Nat) (h : k < fs.length) : fby fs (k + 1) = fby fs k ++ fb fs[k].fr := by
  unfold fby
  rw [← List.take_append_getElem h, List.map_append, fbs_append, List.map_cons, List.map_nil, fbs_cons, fbs_nil, List.append_nil]
theorem fby_all (fs : List Fi) : fby fs fs.length = fbs (fs.map Fi.fr) := by unfold fby; rw [List.take_length]
theorem fby_le (fs : List Fi) (k : Nat) : (fby fs k).length ≤ (fbs (fs.map Fi.fr)).length := by
  have e : fbs (fs.map Fi.fr) = fby fs k ++ fbs ((fs.drop k).map Fi.fr) := by
    unfold fby
    rw [← fbs_append, ← List.map_append, List.take_append_drop]
  rw [e, List.length_append]
  omega
/-- Put while it goes on: a row that grows, its header taken apart. -/
def Gw (w : World) (v : Value) (z : List UInt8) (wr : World) : Prop := ∃ A m c, v = .slice A m c ∧ m = z.length ∧ Ac w (.slice A m c) z wr
theorem Ac.gw {w wr : World} {v : Value} {z : List UInt8} (h : Ac w v z wr) : Gw w v z wr := ac_len h

set_option maxRecDepth 100000 in
set_option maxHeartbeats 2000000 in
theorem rput_round (A : Option Addr) (n c j : Nat) (y : Int) (fs : List Fi) (w : World) (hn : n = fs.length) (hj : j ≤ n) (hok : ∀ i (h : i < fs.length), i < j → fs[i].Ok) (hbad : ∀ (h : j < fs.length), fs[j].Wrong y) (hnl : n ≤ 268435456) (htl : (fbs (fs.map Fi.fr)).length ≤ 1000000000000) (hdl : ∀ i (h : i < fs.length), fs[i].data.length ≤ 1099511627776) (hA : FrArr w A fs) :
    Calls Try.prog 7 #[.slice A n c] w fun e w' => (j < n → PutErr w y e w') ∧ (j = n → PutOk w fs e w') := by
  have HA := Lib.hid hA
  have HN := Lib.hid hn
  have HOK := Lib.hid hok
  have HBAD := Lib.hid hbad
  have HD := Lib.hid hdl
  have HZ := Lib.hid (fun k => Nat.le_trans (fby_le fs k) htl)
  have HFS := Lib.hid (fby_succ fs)
  have HF0 : Hid (Gw w (.slice none 0 0) (fby fs 0) w) := Lib.hid ⟨none, 0, 0, rfl, by rw [fby_zero]; rfl, by rw [fby_zero]; exact ⟨World.ownsRow_nil _ _ _ _, new_refl w⟩⟩
  clear hA hn hok hbad htl hdl
  go_enter Try.func7, Try.ntmps7
  go_wp2
  go_loopw [4, 5] (fun v i wr => ∃ k : Nat, k ≤ j ∧ i = .int .i64 k ∧ Gw w v (fby fs k) wr) (fun _ i _ => n - (intOf i).toNat)
  case atStart => exact ⟨0, Nat.zero_le _, rfl, HF0.out⟩
  case round =>
    clear HF0
    obtain ⟨k, hk, rfl, A1, m1, c1, rfl, hm1, hac⟩ := hrel
    have HM1 := Lib.hid hm1
    have HAC := Lib.hid hac
    clear hm1 hac
    by_cases hlt : k < n
    · have hlf : k < fs.length := by have := HN.out; omega
      obtain ⟨g, rfl, hg, g0, g1, hr⟩ := HA.out k hlf
      have k0 := (HAC.out.new.cell (p := ⟨g, k * 2, none⟩) hg).trans g0
      have k1 := (HAC.out.new.cell (p := ⟨g, k * 2 + 1, none⟩) hg).trans g1
      have HR := Lib.hid (hr.new HAC.out.new)
      have hdk := HD.out k hlf
      have HS := Lib.hid (HFS.out k hlf)
      by_cases hkj : k < j
      · have hokk := HOK.out k hlf hkj
        have hkd := hokk.kind
        obtain ⟨q0, q1, q2⟩ := hokk
        obtain ⟨x, hx⟩ : ∃ x, fs[k] = x := ⟨_, rfl⟩
        rw [hx] at k0 k1 HR hdk HS hkd q0 q1 q2
        have HO := Lib.hid (one_any x.fr x.A x.data.length x.c wr rfl q2 HR.out)
        rw [← hkd] at HO
        have hnq0 : ¬ x.kind < 0 := by omega
        have hnq1 : ¬ (255 : Int) < x.kind := by omega
        have hzl := HZ.out (k + 1)
        rw [HS.out, List.length_append] at hzl
        have HZL := Lib.hid hzl
        have hfl : (fb x.fr).length = 9 + x.data.length := fb_length x.fr
        clear hzl hkd hx g0 g1 hr
        obtain ⟨dl, hdl⟩ : ∃ dl, x.data.length = dl := ⟨_, rfl⟩
        rw [hdl] at k1 HO hdk q2
        have hnd : ¬ (262144 : Int) < (dl : Int) := by omega
        clear hdl hfl HR
        generalize x.kind = kd at *
        go_wp2_with (first
          | (go_at_call 23; (with_reducible refine HO.out.mono ?_); rintro e w2 ⟨A2, c2, rfl, ho2, hn2⟩; have HR2 := Lib.hid (own_typed ho2).2.1; have HAC2 := Lib.hid (HAC.out.keep hn2); clear ho2 hn2)
          | (at_builtin; refine wpList_ac (w0 := w) (z := fby fs k) (l := fb x.fr) (by rfl) (.tmp 33) (.tmp 38) (by rfl) HAC2.out (by rfl) (by rfl) HR2.out (Nat.le_trans HZL.out (by decide)) ?_; intro v3 w3 hac3; have HG3 := Lib.hid hac3.gw; clear hac3)
          | fail)
        go_roundw
        case rel => exact ⟨k + 1, by omega, by go_num, by rw [HS.out]; exact HG3.out⟩
        case measure => simp [intOf]; omega
      · obtain rfl : k = j := by omega
        have hbk := HBAD.out hlf
        obtain ⟨x, hx⟩ : ∃ x, fs[k] = x := ⟨_, rfl⟩
        rw [hx] at k0 k1 hdk hbk
        clear g0 g1 hr hx HR HS
        rcases hbk with ⟨hy, hb⟩ | ⟨hy, q0, q1, hb⟩
        · have HN1 := Lib.hid HAC.out.new
          obtain ⟨dl, hdl⟩ : ∃ dl, x.data.length = dl := ⟨_, rfl⟩
          rw [hdl] at k1 hdk
          clear hdl
          generalize x.kind = kd at *
          by_cases hb0 : kd < 0
          · go_wp2
            go_ret2
            first
              | exact ⟨fun _ => ⟨by subst hy; rfl, HN1.out⟩, fun h => absurd h (by omega)⟩
              | exact ⟨⟨rfl, HN1.out⟩, fun h => absurd h (by omega)⟩
              | exact ⟨⟨by subst hy; rfl, HN1.out⟩, fun h => absurd h (by omega)⟩
              | exact ⟨rfl, HN1.out⟩
              | exact ⟨fun _ => ⟨rfl, HN1.out⟩, fun h => absurd h (by omega)⟩
          · have hb1 : (255 : Int) < kd := by omega
            go_wp2
            go_ret2
            first
              | exact ⟨fun _ => ⟨by subst hy; rfl, HN1.out⟩, fun h => absurd h (by omega)⟩
              | exact ⟨⟨rfl, HN1.out⟩, fun h => absurd h (by omega)⟩
              | exact ⟨⟨by subst hy; rfl, HN1.out⟩, fun h => absurd h (by omega)⟩
              | exact ⟨rfl, HN1.out⟩
              | exact ⟨fun _ => ⟨rfl, HN1.out⟩, fun h => absurd h (by omega)⟩
        · have HN1 := Lib.hid HAC.out.new
          have hnq0 : ¬ x.kind < 0 := by omega
          have hnq1 : ¬ (255 : Int) < x.kind := by omega
          obtain ⟨dl, hdl⟩ : ∃ dl, x.data.length = dl := ⟨_, rfl⟩
          rw [hdl] at k1 hdk hb
          clear hdl
          have hbi : (262144 : Int) < (dl : Int) := by omega
          generalize x.kind = kd at *
          go_wp2
          go_ret2
          first
              | exact ⟨fun _ => ⟨by subst hy; rfl, HN1.out⟩, fun h => absurd h (by omega)⟩
              | exact ⟨⟨rfl, HN1.out⟩, fun h => absurd h (by omega)⟩
              | exact ⟨⟨by subst hy; rfl, HN1.out⟩, fun h => absurd h (by omega)⟩
              | exact ⟨rfl, HN1.out⟩
              | exact ⟨fun _ => ⟨rfl, HN1.out⟩, fun h => absurd h (by omega)⟩
    · obtain rfl : k = n := by omega
      have hkj : k = j := by omega
      have e1 := HM1.out
      have h1 := HAC.out
      have hnn := HN.out
      rw [hnn, fby_all] at e1 h1
      have HP : Hid (PutOk w fs (.returned (.tuple #[.slice A1 m1 c1, .int .i64 0])) wr) := Lib.hid (by
        subst e1
        exact ⟨A1, c1, rfl, h1.own, h1.new⟩)
      clear e1 h1 hnn HAC HM1
      go_wp2
      go_ret2
      exact ⟨fun h => absurd h (by omega), fun _ => HP.out⟩
theorem rput_ok (A : Option Addr) (n c : Nat) (fs : List Fi) (w : World) (hn : n = fs.length) (hok : ∀ i (h : i < fs.length), fs[i].Ok) (hnl : n ≤ 268435456) (htl : (fbs (fs.map Fi.fr)).length ≤ 1000000000000) (hdl : ∀ i (h : i < fs.length), fs[i].data.length ≤ 1099511627776) (hA : FrArr w A fs) :
    Calls Try.prog 7 #[.slice A n c] w (PutOk w fs) :=
  (rput_round A n c n 0 fs w hn (Nat.le_refl _) (fun i h _ => hok i h) (fun h => absurd h (by omega)) hnl htl hdl hA).mono fun e w' k => k.2 rfl
theorem rput_err (A : Option Addr) (n c j : Nat) (y : Int) (fs : List Fi) (w : World) (hn : n = fs.length) (hj : j < fs.length) (hok : ∀ i (h : i < fs.length), i < j → fs[i].Ok) (hbad : ∀ (h : j < fs.length), fs[j].Wrong y) (hnl : n ≤ 268435456) (htl : (fbs (fs.map Fi.fr)).length ≤ 1000000000000) (hdl : ∀ i (h : i < fs.length), fs[i].data.length ≤ 1099511627776) (hA : FrArr w A fs) :
    Calls Try.prog 7 #[.slice A n c] w (PutErr w y) :=
  (rput_round A n c j y fs w hn (by omega) hok hbad hnl htl hdl hA).mono fun e w' k => k.1 (by omega)
end Go.Proofs.Ytlbbhheaginddaa.fr
