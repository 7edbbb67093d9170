/-
  Both Parses tell the same.
-/
import Derived.Test.YtddojdgnakajmaaGreatDoorPt
namespace Go.Proofs.YtddojdgnakajmaaGreatDoor.txt
open Go.RowKit Go.Proofs.YtddojdgnakajmaaGreatDoor.mem Go.Proofs.YtddojdgnakajmaaGreatDoor.kit Go.Proofs.YtddojdgnakajmaaGreatDoor.ins
set_option linter.unusedVariables false
set_option linter.unusedSimpArgs false

theorem rparse_any (l : Bs) (w : World) (hP : PowT w) : Calls Tryz.prog 18 #[.string ⟨l.toArray⟩] w (ParseD w (parseM l)) := by
  by_cases hl : 262144 < l.length
  · have e : parseM l = ((3, 0), []) := by unfold parseM; rw [if_pos hl]
    rw [e]
    exact rparse_long l w hl
  · exact rparse_ok l w (by omega) hP
def ParseX (w : World) (x y : Int) (l : List In) (e : Ending) (w' : World) : Prop := ∃ A c, e = .returned (.tuple #[.slice A l.length c, .agg #[.int .i64 x, .int .i64 y]]) ∧ RI w' A l ∧ New w w'
theorem parse_x {w : World} {x y : Int} {l : List In} {e : Ending} {w' : World} (h : ParseD w ((x, y), l) e w') : ParseX w x y l e w' := by
  obtain ⟨v, rfl, ho, hn⟩ := h
  obtain ⟨A, c, rfl, -, -, hr⟩ := own_len ho
  exact ⟨A, c, rfl, hr, hn⟩
theorem ri_new {w w' : World} {A : Option Addr} {l : List In} (h : RI w A l) (hn : New w w') : RI w' A l := Reads.new h hn

set_option maxRecDepth 100000 in
set_option maxHeartbeats 1000000 in
theorem parses_any (T : TypeId) (q : Addr) (s : Bs) (w : World) (h : TW w T q) : Calls Tryz.prog 7 #[.string ⟨s.toArray⟩] w fun e w' => e = .returned (.bool true) ∧ New w w' := by
  obtain ⟨⟨⟨x, y⟩, l⟩, hM⟩ : ∃ z, parseM s = z := ⟨_, rfl⟩
  have hlen : l.length ≤ 1099511627776 := by
    obtain ⟨h1, h2⟩ := parse_inv s
    rw [hM] at h1 h2
    by_cases hx : x = 0
    · have := (h1 hx).2.2
      simp only at this
      omega
    · have := (h2 hx).1
      simp only at this
      rw [this]
      simp
  have HP : Hid (Calls Tryz.prog 6 #[.string ⟨s.toArray⟩] w (ParseX w x y l)) := Lib.hid ((hM ▸ parse_any T q s w h.m h.e h.n).mono fun e w' h => parse_x h)
  have HR : Hid (∀ W, New w W → Calls Tryz.prog 18 #[.string ⟨s.toArray⟩] W (ParseX W x y l)) := Lib.hid (fun W hW => (hM ▸ rparse_any s W (h.p.new hW)).mono fun e w' h => parse_x h)
  have HS : Hid (∀ W A B c d, RI W A l → RI W B l → Calls Tryz.prog 19 #[.slice A l.length c, .slice B l.length d] W fun e w' => e = .returned (.bool true) ∧ New W w') := Lib.hid (fun W A B c d hA hB => sameIns_any A B l.length c d l W rfl hlen hA hB)
  obtain ⟨n, hn⟩ : ∃ n, l.length = n := ⟨_, rfl⟩
  unfold ParseX at HP HR
  rw [hn] at HP HR HS
  clear hM hlen hn h
  go_enter Tryz.func7, Tryz.ntmps7
  go_wp2_with (first
    | (go_at_call 6; (with_reducible refine HP.out.mono ?_); rintro e w1 ⟨A1, c1, rfl, hr1, hn1⟩; have n1 := new1 w1 (.cells #[.int .i64 x, .int .i64 y] 26); have HR1 := Lib.hid (ri_new hr1 n1); have HN1 := Lib.hid (New.then hn1 n1); have HB1 := Lib.hid (Blk.new w1 26 #[.int .i64 x, .int .i64 y]); clear hr1 hn1 n1)
    | (go_at_call 18; (with_reducible refine (HR.out _ HN1.out).mono ?_); rintro e w2 ⟨A2, c2, rfl, hr2, hn2⟩; have n2 := new1 w2 (.cells #[.int .i64 x, .int .i64 y] 26); have HR2 := Lib.hid (ri_new hr2 n2); have HR1' := Lib.hid (ri_new HR1.out (New.then hn2 n2)); have HN2 := Lib.hid (New.then HN1.out (New.then hn2 n2)); have hb2 := (HB1.out.below hn2 HB1.out.lt).alloc (.cells #[.int .i64 x, .int .i64 y] 26); have k0 := (hb2.cell 0).trans (show _ = some (Value.int .i64 x) from rfl); have k1 := (hb2.cell 1).trans (show _ = some (Value.int .i64 y) from rfl); clear hr2 hn2 n2 hb2)
    | (go_at_call 19; (with_reducible refine (HS.out _ _ _ _ _ HR1'.out HR2.out).mono ?_); rintro e w3 ⟨rfl, hn3⟩; have HN3 := Lib.hid (New.then HN2.out hn3); clear hn3)
    | fail)
  go_ret
  exact ⟨rfl, HN3.out⟩
end Go.Proofs.YtddojdgnakajmaaGreatDoor.txt
