/-
  Contracts of text: words.
-/
import Derived.Test.YtddojdgnakajmaaGreatDoorTJ
import Derived.Outline
import Derived.Laws.EntriesVeiled
namespace Go.Proofs.YtddojdgnakajmaaGreatDoor.txt
open Go.RowKit Go.Proofs.YtddojdgnakajmaaGreatDoor.mem Go.Proofs.YtddojdgnakajmaaGreatDoor.kit Go.Proofs.YtddojdgnakajmaaGreatDoor.ins
set_option linter.unusedVariables false
set_option linter.unusedSimpArgs false

def pw (t : Nat) : Nat := 2 ^ t
theorem pw_s (t : Nat) : pw (t + 1) = pw t * 2 := by unfold pw; omega
theorem pw_le {t : Nat} (h : t ≤ 3) : pw t < 10 := by
  have h4 : t = 0 ∨ t = 1 ∨ t = 2 ∨ t = 3 := by omega
  rcases h4 with rfl | rfl | rfl | rfl <;> decide
theorem wl_op : ∀ j : Fin 12, wl[2 * j.val]? = some ⟨j.val + 1, false, 0, 0⟩ ∧ wl[2 * j.val + 1]? = some ⟨j.val + 1, true, 0, 0⟩ := by decide +kernel
theorem wl_neg : wl[24]? = some ⟨13, false, 0, 1⟩ ∧ wl[24 + 1]? = some ⟨13, true, 0, 1⟩ := by decide +kernel
theorem wl_mem : ∀ t : Fin 4, wl[26 + 2 * t.val]? = some ⟨14, false, pw t.val, 2⟩ ∧ wl[26 + 2 * t.val + 1]? = some ⟨15, false, pw t.val, 3⟩ := by decide +kernel
theorem wl_jump : wl[34]? = some ⟨16, false, 0, 4⟩ := by decide +kernel
theorem wl_q : ∀ j : Fin 11, wl[35 + 2 * j.val]? = some ⟨17 + j.val, false, 0, 5⟩ ∧ wl[35 + 2 * j.val + 1]? = some ⟨17 + j.val, true, 0, 5⟩ := by decide +kernel
theorem wl_exit : wl[57]? = some ⟨28, false, 0, 6⟩ := by decide +kernel
def WordsD (w : World) (e : Ending) (w' : World) : Prop := ∃ b, e = .returned (.map (some b)) ∧ MapAt w' b wlv ∧ New w w'
theorem put_atz (w0 : World) (b ga gp m m' o z k fk : Nat) (n : Bool) (w : World) (h : WS w0 b ga gp m w) (hx : wl[m]? = some ⟨o, n, z, k⟩) (ho : o < 29) (hz : z < 10) (hm : m + 1 = m') (hf : fnK k = fk) (O : Int) (hO : O = (o : Int)) :
    Calls Tryz.prog 35 #[.agg #[.int .u8 O, .bool n, .int .i64 0, .int .i64 0, .bool false, .int .i64 0, .int .i64 0, .int .i64 (z : Int)], .func (.func fk) #[] #[], .pointer (some ⟨ga, 0, none⟩)] w (WSok w0 b ga gp m') := by
  subst hm
  subst hf
  subst hO
  exact put_at w0 b ga gp m o z k n w h hx ho hz
theorem put_at1 (w0 : World) (b ga gp m m' o k fk : Nat) (n : Bool) (w : World) (h : WS w0 b ga gp m w) (hx : wl[m]? = some ⟨o, n, 0, k⟩) (ho : o < 29) (hm : m + 1 = m') (hf : fnK k = fk) (O : Int) (hO : O = (o : Int)) :
    Calls Tryz.prog 35 #[.agg #[.int .u8 O, .bool n, .int .i64 0, .int .i64 0, .bool false, .int .i64 0, .int .i64 0, .int .i64 0], .func (.func fk) #[] #[], .pointer (some ⟨ga, 0, none⟩)] w (WSok w0 b ga gp m') := by
  subst hO
  exact put_at0 w0 b ga gp m m' o k fk n w h hx ho hm hf
theorem both_at1 (w0 : World) (b ga gp m m' o k fk : Nat) (w : World) (h : WS w0 b ga gp m w) (hx : wl[m]? = some ⟨o, false, 0, k⟩ ∧ wl[m + 1]? = some ⟨o, true, 0, k⟩) (ho : o < 29) (hm : m + 2 = m') (hf : fnK k = fk) (O : Int) (hO : O = (o : Int)) :
    Calls Tryz.prog 37 #[.int .u8 O, .func (.func fk) #[] #[], .pointer (some ⟨gp, 0, none⟩)] w (WSok w0 b ga gp m') := by
  subst hO
  subst hm
  exact both_at w0 b ga gp m o k fk w h hx.1 hx.2 ho hf

set_option maxRecDepth 100000 in
set_option maxHeartbeats 2000000 in
theorem words_any (w : World) (hN : NamesAt w) : Calls Tryz.prog 15 #[] w (WordsD w) := by
  have hmf : ∀ (fn : Fn) (first cap : Array Value) (w : World), (Instr.makeFunc fn first cap).run Tryz.prog w = .ok (.func fn first cap) w := fun _ _ _ _ => rfl
  have hmm := @run_makeMap Tryz.prog
  have HN := Lib.hid hN
  clear hN
  obtain ⟨b, hb⟩ : ∃ b, w.heap.size = b := ⟨_, rfl⟩
  have h0 : WS w b (b + 1) (b + 2) 0 (((w.alloc (.map #[] 0)).alloc (.cells #[.map (some b)] 44)).alloc (.cells #[.func (.func 35) #[] #[.pointer (some ⟨b + 1, 0, none⟩)]] 101)) := by
    have q1 := new1 w (.map #[] 0)
    have q2 := q1.alloc q1.size (.cells #[.map (some b)] 44)
    have q3 := q2.alloc q2.size (.cells #[.func (.func 35) #[] #[.pointer (some ⟨b + 1, 0, none⟩)]] 101)
    refine ⟨q3, by omega, ?_, ?_, ?_, HN.out.new q3⟩
    · have h := Blk.new (w.alloc (.map #[] 0)) 44 #[.map (some b)]
      rw [World.size_alloc, hb] at h
      exact ((h.alloc _).cell 0).trans rfl
    · have h := Blk.new ((w.alloc (.map #[] 0)).alloc (.cells #[.map (some b)] 44)) 101 #[.func (.func 35) #[] #[.pointer (some ⟨b + 1, 0, none⟩)]]
      rw [World.size_alloc, World.size_alloc, hb] at h
      exact (h.cell 0).trans rfl
    · have h := MapAt.made w
      rw [hb] at h
      exact (h.new (new1 _ _)).new (new1 _ _)
  rw [← hb] at h0
  have H0 := Lib.hid h0
  clear h0 hb
  go_enter Tryz.func15, Tryz.ntmps15
  go_wp2
  go_loopw [4] (fun i wr => ∃ k : Nat, k ≤ 12 ∧ i = .int .u8 ((k + 1 : Nat) : Int) ∧ WS w w.heap.size (w.heap.size + 1) (w.heap.size + 1 + 1) (2 * k) wr) (fun i _ => 13 - (intOf i).toNat)
  case atStart => exact ⟨0, by omega, rfl, H0.out⟩
  case round =>
    clear H0
    obtain ⟨k, hk, rfl, hws⟩ := hrel
    have H := Lib.hid hws
    clear hws
    obtain ⟨wk, rfl⟩ : ∃ wk : World, wk = wr := ⟨_, rfl⟩
    by_cases hlt : k < 12
    · have HX := Lib.hid (wl_op ⟨k, hlt⟩)
      have hd : decide (((k + 1 : Nat) : Int) ≤ 12) = true := by simp; omega
      go_wp2_with (go_at_call 37; refine (both_at1 w w.heap.size (w.heap.size + 1) (w.heap.size + 1 + 1) (2 * k) (2 * (k + 1)) (k + 1) 0 38 _ H.out HX.out (by omega) (by omega) rfl _ (by simp)).mono ?_; rintro e w1 ⟨rfl, h1⟩; have H1 := Lib.hid h1; clear h1)
      go_roundw
      case rel => exact ⟨k + 1, by omega, by go_num, H1.out⟩
      case measure => simp [intOf]; omega
    · obtain rfl : k = 12 := by omega
      go_wp2_with (go_at_call 37; refine (both_at1 w w.heap.size (w.heap.size + 1) (w.heap.size + 1 + 1) 24 26 13 1 39 _ H.out wl_neg (by omega) (by omega) rfl _ (by simp)).mono ?_; rintro e w1 ⟨rfl, h1⟩; have H1 := Lib.hid h1; clear h1)
      go_loopw [5] (fun i wr => ∃ t : Nat, t ≤ 4 ∧ i = .int .i64 ((pw t : Nat) : Int) ∧ WS w w.heap.size (w.heap.size + 1) (w.heap.size + 1 + 1) (26 + 2 * t) wr) (fun i _ => 17 - (intOf i).toNat)
      case atStart => exact ⟨0, by omega, rfl, H1.out⟩
      case round =>
        clear H1 H
        obtain ⟨t, ht, rfl, hws⟩ := hrel
        have H := Lib.hid hws
        have cp := hws.p
        clear hws
        obtain ⟨wt, rfl⟩ : ∃ wt : World, wt = wr := ⟨_, rfl⟩
        have hps := pw_s t
        by_cases hlt : t < 4
        · have hp8 : pw t ≤ 8 := by
            have h4 : t = 0 ∨ t = 1 ∨ t = 2 ∨ t = 3 := by omega
            rcases h4 with rfl | rfl | rfl | rfl <;> decide
          have hp0 : 1 ≤ pw t := by unfold pw; exact Nat.one_le_two_pow
          have HX := Lib.hid (wl_mem ⟨t, hlt⟩)
          simp only at HX
          obtain ⟨zt, hzt⟩ : ∃ zt, pw t = zt := ⟨_, rfl⟩
          rw [hzt] at HX hp8 hps hp0 ⊢
          have HPS := Lib.hid hps
          have HZT := Lib.hid hzt
          clear hzt hps
          have hd : decide ((zt : Int) ≤ 8) = true := by simp; omega
          go_wp2_with (go_at_call 35; refine (put_atz w w.heap.size (w.heap.size + 1) (w.heap.size + 1 + 1) (26 + 2 * t) (26 + 2 * t + 1) 14 zt 2 40 false _ H.out HX.out.1 (by omega) (by omega) rfl rfl _ rfl).mono ?_; rintro e w1 ⟨rfl, h1⟩; have cp1 := h1.p; have H1 := Lib.hid h1; clear h1 cp)
          go_wp2_with (go_at_call 35; refine (put_atz w w.heap.size (w.heap.size + 1) (w.heap.size + 1 + 1) (26 + 2 * t + 1) (26 + 2 * (t + 1)) 15 zt 3 41 false _ H1.out HX.out.2 (by omega) (by omega) (by omega) rfl _ rfl).mono ?_; rintro e w2 ⟨rfl, h2⟩; have H2 := Lib.hid h2; clear h2)
          go_roundw
          case rel => exact ⟨t + 1, by omega, by rw [HPS.out]; go_num, H2.out⟩
          case measure => simp [intOf]; omega
        · obtain rfl : t = 4 := by omega
          have e16 : pw 4 = 16 := by decide
          rw [e16]
          have hd : decide (((16 : Nat) : Int) ≤ 8) = false := by decide
          clear hps e16
          go_wp2_with (go_at_call 35; refine (put_at1 w w.heap.size (w.heap.size + 1) (w.heap.size + 1 + 1) 34 35 16 4 42 false _ H.out wl_jump (by omega) rfl rfl _ rfl).mono ?_; rintro e w1 ⟨rfl, h1⟩; have H1 := Lib.hid h1; clear h1 cp)
          go_loopw [6] (fun i wr => ∃ k : Nat, k ≤ 11 ∧ i = .int .u8 ((k + 17 : Nat) : Int) ∧ WS w w.heap.size (w.heap.size + 1) (w.heap.size + 1 + 1) (35 + 2 * k) wr) (fun i _ => 28 - (intOf i).toNat)
          case atStart => exact ⟨0, by omega, rfl, H1.out⟩
          case round =>
            clear H1 H
            obtain ⟨k, hk, rfl, hws⟩ := hrel
            have H := Lib.hid hws
            have cp := hws.p
            have ca := hws.a
            clear hws
            obtain ⟨wq, rfl⟩ : ∃ wq : World, wq = wr := ⟨_, rfl⟩
            by_cases hlt : k < 11
            · have HX := Lib.hid (wl_q ⟨k, hlt⟩)
              have hd : decide (((k + 17 : Nat) : Int) ≤ 27) = true := by simp; omega
              go_wp2_with (go_at_call 37; refine (both_at1 w w.heap.size (w.heap.size + 1) (w.heap.size + 1 + 1) (35 + 2 * k) (35 + 2 * (k + 1)) (17 + k) 5 43 _ H.out HX.out (by omega) (by omega) rfl _ (by simp; omega)).mono ?_; rintro e w1 ⟨rfl, h1⟩; have H1 := Lib.hid h1; clear h1)
              go_roundw
              case rel => exact ⟨k + 1, by omega, by go_num, H1.out⟩
              case measure => simp [intOf]; omega
            · obtain rfl : k = 11 := by omega
              go_wp2_with (go_at_call 35; refine (put_at1 w w.heap.size (w.heap.size + 1) (w.heap.size + 1 + 1) 57 58 28 6 44 false _ H.out wl_exit (by omega) rfl rfl _ rfl).mono ?_; rintro e w1 ⟨rfl, h1⟩; have ca1 := h1.a; have H1 := Lib.hid h1; clear h1)
              go_ret
              exact ⟨w.heap.size, rfl, H1.out.m, H1.out.new⟩
end Go.Proofs.YtddojdgnakajmaaGreatDoor.txt

