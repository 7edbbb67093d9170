/-
  The document's roots.
-/
import Derived.Test.YtnmjgbkifglleaaDoorShaU
namespace Go.Proofs.YtnmjgbkifglleaaDoor.sha
open Go.RowKit Go.Proofs.YtnmjgbkifglleaaDoor.mem
set_option linter.unusedVariables false
theorem Aq.nil (w : World) : Aq w (.slice none 0 0) [] w := ⟨new_refl w, ⟨by simp [vq], .inl ⟨rfl, rfl⟩⟩⟩
set_option maxRecDepth 100000 in
set_option maxHeartbeats 4000000 in
theorem rroots_any (n power F : Nat) (w : World) (h2 : 2 ≤ power) (h3 : power ≤ 3) (hF : F ≤ 900) (hn : n ≤ 1000) (hfin : (roots F n power 2 []).length = n) :
    Calls Tryd.prog 26 #[.int .i64 n, .int .i64 power] w fun e w' => ∃ v, e = .returned v ∧ Aq w v (roots F n power 2 []) w' := by
  have HF := Lib.hid hfin
  clear hfin
  go_enter Tryd.func26, Tryd.ntmps26
  go_wp2
  go_loopw [5, 6] (fun vo vp wr => ∃ f p : Nat, ∃ A c out, p + f = F + 2 ∧ vp = .int .u64 (p : Int) ∧ vo = .slice A out.length c ∧ Hid (Aq w vo out wr) ∧ Hid (roots F n power 2 [] = roots f n power p out)) (fun _ vp _ => F + 2 - (intOf vp).toNat)
  case atStart => exact ⟨F, 2, none, 0, [], by omega, rfl, rfl, Lib.hid (Aq.nil w), Lib.hid rfl⟩
  case round =>
    obtain ⟨f, p, A, c, out, hpf, rfl, rfl, HA, HR⟩ := hrel
    by_cases hlt : out.length < n
    · rcases f with _ | f
      · have h1 := HF.out
        rw [HR.out] at h1
        have : out.length = n := h1
        omega
      · have HS : Hid (roots F n power 2 [] = roots f n power (p + 1) (if prime p then out ++ [root p power] else out)) := Lib.hid (by rw [HR.out]; conv => lhs; unfold roots; rw [if_pos hlt])
        have HP := Lib.hid (rprime_any p wr (by omega))
        have HR2 := fun W => rroot_any p power W (by omega) h2 h3
        generalize prime p = b at *
        cases b
        · go_wp2_with (go_at_call 39; (with_reducible refine HP.out.mono ?_); rintro e w7 ⟨rfl, rfl⟩)
          go_roundw
          case rel => exact ⟨f, p + 1, A, c, out, by omega, by go_num, rfl, HA, HS⟩
          case measure => simp [intOf]; omega
        · go_wp2_with (first
            | (go_at_call 39; (with_reducible refine HP.out.mono ?_); rintro e w7 ⟨rfl, rfl⟩)
            | (go_at_call 40; (with_reducible refine (HR2 _).mono ?_); rintro e w7 ⟨rfl, hn7⟩; have HA7 := Lib.hid ((HA.out.keep hn7).keep (alloc_new w7 (.cells #[.int .u64 ((root p power : Nat) : Int)] 40))); have HX7 := Lib.hid (reads_q1 w7 (root p power)))
            | (refine step_aq (w0 := w) (z := out) (l := [root p power]) (by rfl) (.tmp 19) (.tmp 21) (by rfl) HA7.out (by rfl) (by rfl) (by simpa using HX7.out) (by simp; omega) ?_; intro v8 w8 hM8; obtain ⟨A8, c8, rfl, -⟩ := hM8.reads; have HM8 := Lib.hid hM8; clear hM8)
            | (at_builtin; refine wpl_aq (w0 := w) (z := out) (l := [root p power]) rfl (.tmp 19) (.tmp 21) rfl HA7.out rfl rfl (by simpa using HX7.out) (by simp; omega) ?_; intro v8 w8 hM8; obtain ⟨A8, c8, rfl, -⟩ := hM8.reads; have HM8 := Lib.hid hM8; clear hM8))
          go_roundw
          case rel => exact ⟨f, p + 1, A8, c8, out ++ [root p power], by omega, by go_num, by simp, Lib.hid (by have := HM8.out; simpa using this), HS⟩
          case measure => simp [intOf]; omega
    · go_wp2
      go_ret
      exact ⟨_, rfl, by rw [HR.out]; cases f <;> (unfold roots; first | exact HA.out | (rw [if_neg hlt]; exact HA.out))⟩
end Go.Proofs.YtnmjgbkifglleaaDoor.sha
