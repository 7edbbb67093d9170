/-
  FrameBack, whole.
-/
import Derived.Test.YtdbolkmhmgbgfaaFBackO
namespace Go.Proofs.Ytdbolkmhmgbgfaa.fr
open Go.RowKit Go.Proofs.Ytdbolkmhmgbgfaa.mem Go.Proofs.Ytdbolkmhmgbgfaa.kit Go.Proofs.Ytdbolkmhmgbgfaa.wire Go.Proofs.Ytdbolkmhmgbgfaa.crc
set_option linter.unusedVariables false

set_option maxRecDepth 100000 in
set_option maxHeartbeats 4000000 in
theorem back_any (A B : Option Addr) (n c d : Nat) (cut : Int) (fs : List Fi) (bs : List UInt8) (w : World) (hn : n = fs.length) (hc : n ≤ c ∧ c ≤ maxLen) (hnl : n ≤ 4398046511104) (hdl : ∀ i (h : i < fs.length), fs[i].data.length ≤ 140737488351232) (hA : FrOf w A fs)
    (hx1 : -9223372036854775808 ≤ cut) (hx2 : cut ≤ 9223372036854775807)
    (hd : bs.length ≤ d ∧ d ≤ maxLen) (hB : Reads w w.heap.size 1 B bs.length (vb bs)) :
    Calls Try.prog 6 #[.slice A n c, .int .i64 cut, .slice B bs.length d] w fun e w' => e = .returned (.bool true) ∧ New w w' := by
  by_cases hg : 20000 < n + tot fs ∨ 20000 < bs.length
  · have HAW := Lib.hid (awake_any w)
    obtain ⟨q, hq⟩ : ∃ q, decide (20000 < n + tot fs) = q := ⟨_, rfl⟩
    have HGR : Hid (∀ W, New w W → Calls Try.prog 8 #[.slice A n c] W fun e w' => e = .returned (.bool q) ∧ w' = W) := Lib.hid (fun W hW => by
      have h := great_any A n c fs W hn hnl hdl (hA.new hW)
      rwa [hq] at h)
    cases q with
    | true =>
      clear hc hd hB hA hdl hn hg hq
      go_enter Try.func6, Try.ntmps6
      go_wp2_with (first
        | (go_at_call 9; (with_reducible refine HAW.out.mono ?_); rintro e w1 ⟨rfl, hn1⟩; have HN1 := Lib.hid hn1; clear hn1)
        | (go_at_call 8; (with_reducible refine (HGR.out w1 HN1.out).mono ?_); rintro e w2 ⟨rfl, rfl⟩))
      go_ret
      exact ⟨rfl, HN1.out⟩
    | false =>
      have hl : 20000 < bs.length := by
        rcases hg with h | h
        · simp at hq; omega
        · exact h
      have hlb : decide ((20000 : Int) < (bs.length : Int)) = true := by simp; omega
      clear hc hd hB hA hdl hn hg hq hl
      go_enter Try.func6, Try.ntmps6
      go_wp2_with (first
        | (go_at_call 9; (with_reducible refine HAW.out.mono ?_); rintro e w1 ⟨rfl, hn1⟩; have HN1 := Lib.hid hn1; clear hn1)
        | (go_at_call 8; (with_reducible refine (HGR.out w1 HN1.out).mono ?_); rintro e w2 ⟨rfl, rfl⟩))
      go_ret
      exact ⟨rfl, HN1.out⟩
  · have hdl : ∀ i (h : i < fs.length), fs[i].data.length ≤ 1099511627776 := fun i h => by have := le_tot fs i h; omega
    rcases ok_or_wrong fs with hok | ⟨j, hj, h1, y, h2⟩
    · exact back_ok A B n c d cut fs bs w hn hc (by omega) hdl hA hok hx1 hx2 (by omega) hd hB
    · exact back_err A B n c d j y cut fs bs w hn (by omega) hdl hA hj h1 (fun _ => h2) (by omega) hd hB
end Go.Proofs.Ytdbolkmhmgbgfaa.fr
