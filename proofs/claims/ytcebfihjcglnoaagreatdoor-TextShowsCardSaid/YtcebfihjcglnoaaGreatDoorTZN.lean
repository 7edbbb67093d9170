/-
  The document's line of an instruction; its Show.
-/
import Derived.Test.YtcebfihjcglnoaaGreatDoorTMa
import Derived.Test.YtcebfihjcglnoaaGreatDoorTMb
import Derived.Test.YtcebfihjcglnoaaGreatDoorTMd
import Derived.Test.YtcebfihjcglnoaaGreatDoorTMe
import Derived.Test.YtcebfihjcglnoaaGreatDoorTMf
import Derived.Test.YtcebfihjcglnoaaGreatDoorTZF
import Derived.Test.YtcebfihjcglnoaaGreatDoorInI
import Derived.Lib.AppendStr
import Derived.Lib.BufferRead
import Derived.Test.YtcebfihjcglnoaaGreatDoorInL
namespace Go.Proofs.YtcebfihjcglnoaaGreatDoor.txt
open Go.RowKit Go.Proofs.YtcebfihjcglnoaaGreatDoor.mem Go.Proofs.YtcebfihjcglnoaaGreatDoor.kit Go.Proofs.YtcebfihjcglnoaaGreatDoor.ins
set_option linter.unusedVariables false
set_option linter.unusedSimpArgs false

set_option maxRecDepth 100000 in
set_option maxHeartbeats 1000000 in
theorem one_exit (id isr : Int) (iu : Bool) (iof iim isz : Int) (w : World) :
    Calls Tryz.prog 37 #[.agg #[.int .u8 28, .bool false, .int .i64 id, .int .i64 isr, .bool iu, .int .i64 iof, .int .i64 iim, .int .i64 isz]] w fun e w' => e = .returned (.string ⟨#[101, 120, 105, 116]⟩) ∧ New w w' := by
  have n1 := new1 w (.cells #[.int .u8 28, .bool false, .int .i64 id, .int .i64 isr, .bool iu, .int .i64 iof, .int .i64 iim, .int .i64 isz] 47)
  have HN := Lib.hid n1
  obtain ⟨a0, a1, a2, a3, a4, a5, a6, a7⟩ := cells8 (Blk.new w 47 #[.int .u8 28, .bool false, .int .i64 id, .int .i64 isr, .bool iu, .int .i64 iof, .int .i64 iim, .int .i64 isz])
  clear n1
  go_enter Tryz.func37, Tryz.ntmps37
  go_wp2
  go_ret
  exact ⟨rfl, HN.out⟩

theorem rws_at (k : Nat) (h : k < 12) : rws.getD k [] = nameB (k + 1) := by
  have : ∀ j : Fin 12, rws.getD j.val [] = nameB (j.val + 1) := by decide +kernel
  exact this ⟨k, h⟩
theorem rws_at2 (k : Nat) (h : 16 ≤ k) (h2 : k < 27) : rws.getD k [] = nameB (k + 1) := by
  have : ∀ j : Fin 27, 16 ≤ j.val → rws.getD j.val [] = nameB (j.val + 1) := by decide +kernel
  exact this ⟨k, h2⟩ h
theorem jn1 (a : Bs) : Lib.join [a] [44, 32] = a := by simp [Lib.join_cons, Lib.joinTail]
theorem jn2 (a b : Bs) : Lib.join [a, b] [44, 32] = a ++ [44, 32] ++ b := by simp [Lib.join_cons, Lib.joinTail]
theorem jn3 (a b c : Bs) : Lib.join [a, b, c] [44, 32] = a ++ [44, 32] ++ b ++ [44, 32] ++ c := by simp [Lib.join_cons, Lib.joinTail]
theorem str_eq {a b : Bs} {e : Ending} (he : e = .returned (.string ⟨a.toArray⟩)) (h : a = b) : e = .returned (.string ⟨b.toArray⟩) := by rw [he, h]
theorem digZ (z : Int) (h : sizd z = true) : Lib.itoa z = [UInt8.ofNat (48 + z.toNat)] ∧ z.toNat ≠ 0 := by
  simp only [sizd, Bool.or_eq_true, decide_eq_true_eq] at h
  rcases h with ((rfl | rfl) | rfl) | rfl <;> exact ⟨by decide +kernel, by decide⟩

theorem rone_any (i : In) (w : World) (h : ok i = true) (hP : PowT w) : Calls Tryz.prog 37 #[.agg (icell i)] w fun e w' => e = .returned (.string ⟨(lnB i).toArray⟩) ∧ New w w' := by
  have hs := sm_of_ok h
  obtain ⟨-, -, -, -, -, -, g1, g2, hz⟩ := ok_facts i h
  have hI : I64 i.siz := by
    rcases hz with ⟨-, -, h1⟩ | ⟨-, h1⟩
    · simp [sizd] at h1; exact ⟨by omega, by omega⟩
    · exact ⟨by omega, by omega⟩
  obtain ⟨io, inr, id, isr, iu, iof, iim, isz⟩ := i
  simp only at g1 g2 hz hI
  unfold lnB partsB
  simp only
  by_cases h28 : io = 28
  · subst h28
    have hn : inr = false := by simp [ok] at h; exact h.1
    subst hn
    obtain ⟨-, rfl⟩ | ⟨-, rfl⟩ : (False ∧ isz = 0) ∨ (True ∧ isz = 0) := by rcases hz with ⟨h1, -⟩ | ⟨-, h1⟩; (· omega); exact .inr ⟨trivial, h1⟩
    all_goals exact (one_exit id isr iu iof iim 0 w).mono fun e w' ⟨h1, h2⟩ => ⟨h1, h2⟩
  rw [if_neg h28]
  by_cases h16 : io = 16
  · subst h16
    have hn : inr = false := by simp [ok] at h; exact h.2.1
    have hz0 : isz = 0 := by rcases hz with ⟨h1, -⟩ | ⟨-, h1⟩; (· omega); exact h1
    subst hn; subst hz0
    rw [if_pos rfl]
    refine (one_jump id isr iu iof iim 0 w hs hI hP).mono fun e w' ⟨h1, h2⟩ => ⟨str_eq h1 ?_, h2⟩
    simp [jn1, wordB, nameB]
  rw [if_neg h16]
  by_cases h13 : io = 13
  · subst h13
    have hz0 : isz = 0 := by rcases hz with ⟨h1, -⟩ | ⟨-, h1⟩; (· omega); exact h1
    subst hz0
    rw [if_pos rfl]
    cases inr
    · refine (one_neg0 id isr iu iof iim 0 w hs hI hP).mono fun e w' ⟨h1, h2⟩ => ⟨str_eq h1 ?_, h2⟩
      simp [jn1, wordB, nameB, rws]
    · refine (one_neg1 id isr iu iof iim 0 w hs hI hP).mono fun e w' ⟨h1, h2⟩ => ⟨str_eq h1 ?_, h2⟩
      simp [jn1, wordB, nameB, rws]
  rw [if_neg h13]
  by_cases h14 : io = 14
  · subst h14
    obtain ⟨hn, hsz⟩ : inr = false ∧ sizd isz = true := by rcases hz with ⟨-, h1, h2⟩ | ⟨h1, -⟩; (· exact ⟨h1, h2⟩); exact absurd (.inl rfl) h1
    subst hn
    rw [if_pos rfl]
    obtain ⟨d1, d2⟩ := digZ isz hsz
    refine (one_load id isr iu iof iim isz w hs hI hP).mono fun e w' ⟨h1, h2⟩ => ⟨str_eq h1 ?_, h2⟩
    rw [d1]
    simp [jn2, wordB, nameB, d2]
  rw [if_neg h14]
  by_cases h15 : io = 15
  · subst h15
    obtain ⟨hn, hsz⟩ : inr = false ∧ sizd isz = true := by rcases hz with ⟨-, h1, h2⟩ | ⟨h1, -⟩; (· exact ⟨h1, h2⟩); exact absurd (.inr rfl) h1
    subst hn
    rw [if_pos rfl]
    obtain ⟨d1, d2⟩ := digZ isz hsz
    refine (one_put id isr iu iof iim isz w hs hI hP).mono fun e w' ⟨h1, h2⟩ => ⟨str_eq h1 ?_, h2⟩
    rw [d1]
    simp [jn2, wordB, nameB, d2]
  rw [if_neg h15]
  have hz0 : isz = 0 := by rcases hz with ⟨h1, -⟩ | ⟨-, h1⟩; (· omega); exact h1
  subst hz0
  obtain ⟨k, hk⟩ : ∃ k : Nat, io - 1 = (k : Int) := ⟨(io - 1).toNat, by omega⟩
  have hto : io.toNat = k + 1 := by omega
  by_cases hj : 17 ≤ io ∧ io ≤ 27
  · rw [if_pos hj, hto]
    have hr := rws_at2 k (by omega) (by omega)
    cases inr
    · refine (one_q0 io id isr iu iof iim 0 w hs hI hP k hk hj.1 hj.2).mono fun e w' ⟨h1, h2⟩ => ⟨str_eq h1 ?_, h2⟩
      rw [hr]; simp [jn3, wordB]
    · refine (one_q1 io id isr iu iof iim 0 w hs hI hP k hk hj.1 hj.2).mono fun e w' ⟨h1, h2⟩ => ⟨str_eq h1 ?_, h2⟩
      rw [hr]; simp [jn3, wordB]
  · rw [if_neg hj, hto]
    have hr := rws_at k (by omega)
    cases inr
    · refine (one_op0 io id isr iu iof iim 0 w hs hI hP k hk g1 (by omega)).mono fun e w' ⟨h1, h2⟩ => ⟨str_eq h1 ?_, h2⟩
      rw [hr]; simp [jn2, wordB]
    · refine (one_op1 io id isr iu iof iim 0 w hs hI hP k hk g1 (by omega)).mono fun e w' ⟨h1, h2⟩ => ⟨str_eq h1 ?_, h2⟩
      rw [hr]; simp [jn2, wordB]
end Go.Proofs.YtcebfihjcglnoaaGreatDoor.txt

namespace Go.Proofs.YtcebfihjcglnoaaGreatDoor.txt
open Go.RowKit Go.Proofs.YtcebfihjcglnoaaGreatDoor.mem Go.Proofs.YtcebfihjcglnoaaGreatDoor.kit Go.Proofs.YtcebfihjcglnoaaGreatDoor.ins
set_option linter.unusedVariables false
set_option linter.unusedSimpArgs false

theorem byte_info : (Tryz.prog.info? 5).map (fun i => (i.zero, i.size, i.bytes)) = some (some (.int .u8 0), 1, 1) := by kernel_rfl
theorem strCells_vb (x : Bs) : Lib.strCells ⟨x.toArray⟩ = vb x := by simp [Lib.strCells, vb]
theorem conv_own {w : World} {base n : Nat} {v : Value} {x : Bs} (h : w.ownsRow base 5 1 v n (vb x)) : (convert 42 9 v).run Tryz.prog w = .ok (.string ⟨x.toArray⟩) w := by
  have hl : n = x.length := by have := h.1; rw [vb_length] at this; omega
  rcases h.2 with ⟨rfl, h0⟩ | ⟨g, cap, cur, rfl, hb, hg, hc, hm, hs, ht⟩
  · have : x = [] := List.eq_nil_of_length_eq_zero (by omega)
    subst this
    exact Lib.run_convert_nil_bytes w _ _ _ 0 Tryz.underlying42 Tryz.underlying5 Tryz.underlying9
  · subst hl
    exact run_convert_bytes_back w _ _ _ ⟨g, 0, none⟩ cap x Tryz.underlying42 Tryz.underlying5 Tryz.underlying9 (fun j hj => h.cells (g := g) rfl j _ (vb_get x j hj))
theorem rright_y (o : Int) (n : Bool) (d s : Int) (u : Bool) (f m z : Int) (B : Bool) (h : ok ⟨o, n, d, s, u, f, m, z⟩ = B) (w : World) :
    Calls Tryz.prog 36 #[.agg #[.int .u8 o, .bool n, .int .i64 d, .int .i64 s, .bool u, .int .i64 f, .int .i64 m, .int .i64 z]] w fun e w' => e = .returned (.bool B) ∧ New w w' := h ▸ RRight_any ⟨o, n, d, s, u, f, m, z⟩ w
theorem takeAll {l : List In} {k : Nat} (hk : k < l.length) (h : (l.take k).all ok = true) (ho : ok l[k] = true) : (l.take (k + 1)).all ok = true := by
  rw [List.take_succ_eq_append_getElem hk, List.all_append, h]
  simp [ho]
theorem lines_take {l : List In} {k : Nat} (hk : k < l.length) : linesOf (l.take (k + 1)) = linesOf (l.take k) ++ (lnB l[k] ++ [10]) := by
  rw [List.take_succ_eq_append_getElem hk, linesOf_snoc, List.append_assoc]

set_option maxRecDepth 100000 in
set_option maxHeartbeats 4000000 in
theorem rshow_any (A : Option Addr) (n c : Nat) (l : List In) (w : World) (hn : n = l.length) (hnm : n ≤ maxLen) (hA : RI w A l) (hP : PowT w) :
    Calls Tryz.prog 14 #[.slice A n c] w (ShowD w (showM l)) := by
  obtain ⟨i0, hi, hz0, hz1, hz2⟩ := info_parts byte_info
  by_cases hlong : 4096 < n
  · have e : showM l = (3, []) := by unfold showM; rw [if_pos (by omega)]
    rw [e]
    have hd : (4096 : Int) < (n : Int) := by omega
    clear hn hA hP
    go_enter Tryz.func14, Tryz.ntmps14
    go_wp2
    refine bodyPost_ret (v := .tuple #[.string ⟨#[]⟩, .int .i64 3]) (by simp [results, Tryz.results14, go_sem]) rfl ?_
    exact ⟨rfl, new_refl w⟩
  · have hd : ¬ (4096 : Int) < (n : Int) := by omega
    have e : showM l = (if l.all ok then (0, linesOf l) else (4, [])) := by unfold showM; rw [if_neg (by omega)]
    obtain ⟨X, hX⟩ : ∃ X, showM l = X := ⟨_, rfl⟩
    rw [hX]
    rw [e] at hX
    have HX := Lib.hid hX
    have HN := Lib.hid hn
    have HA := Lib.hid hA
    have HP := Lib.hid hP
    clear hX e hn hA hP
    go_enter Tryz.func14, Tryz.ntmps14
    go_wp2
    go_loopw [4] (fun i wr => ∃ k : Nat, k ≤ n ∧ i = .int .i64 k ∧ (l.take k).all ok = true ∧ New w wr) (fun i _ => n - (intOf i).toNat)
    case atStart => exact ⟨0, Nat.zero_le _, rfl, by simp, new_refl w⟩
    case round =>
      obtain ⟨k, hk, rfl, hall, hnw⟩ := hrel
      have HNW := Lib.hid hnw
      have HALL := Lib.hid hall
      clear hnw hall
      by_cases hlt : k < n
      · have hkl : k < l.length := by rw [← HN.out]; exact hlt
        have HKL := Lib.hid hkl
        have t3 : (k : Int) < (n : Int) := by omega
        obtain ⟨g, a, rfl, hg, hat⟩ := RI.at_ HA.out hkl
        obtain ⟨y, hy⟩ : ∃ y, (l[k]'hkl) = y := ⟨_, rfl⟩
        rw [hy] at hat
        obtain ⟨b0, b1, b2, b3, b4, b5, b6, b7⟩ := hat.new hg HNW.out
        obtain ⟨o, nn, d, s, u, f, m, z⟩ := y
        simp only at b0 b1 b2 b3 b4 b5 b6 b7
        obtain ⟨B, hB⟩ : ∃ B, ok ⟨o, nn, d, s, u, f, m, z⟩ = B := ⟨_, rfl⟩
        have HB := Lib.hid hB
        have HY := Lib.hid hy
        clear hy hB hat
        rcases B with _ | _
        · go_wp2_with (go_at_call 36; (with_reducible refine (rright_y _ _ _ _ _ _ _ _ false HB.out _).mono ?_); rintro e w2 ⟨rfl, hn2⟩)
          refine bodyPost_ret (v := .tuple #[.string ⟨#[]⟩, .int .i64 4]) (by simp [results, Tryz.results14, go_sem]) rfl ?_
          have hx : X = (4, []) := by
            rw [← HX.out, if_neg]
            intro h
            have h2 : ok (l[k]'hkl) = true := List.all_eq_true.1 h _ (List.getElem_mem hkl)
            rw [HY.out, HB.out] at h2
            cases h2
          rw [hx]
          exact ⟨rfl, New.then HNW.out hn2⟩
        · go_wp2_with (go_at_call 36; (with_reducible refine (rright_y _ _ _ _ _ _ _ _ true HB.out _).mono ?_); rintro e w2 ⟨rfl, hn2⟩)
          go_roundw
          case rel => exact ⟨k + 1, by omega, by go_num, takeAll hkl HALL.out (by rw [HY.out]; exact HB.out), New.then HNW.out hn2⟩
          case measure => simp [intOf]; omega
      · obtain rfl : n = k := by omega
        have t3 : ¬ (n : Int) < (n : Int) := by omega
        have hallL : l.all ok = true := by have := HALL.out; rwa [List.take_of_length_le (by rw [← HN.out]; exact Nat.le_refl _)] at this
        have HL := Lib.hid hallL
        clear hallL
        go_wp2
        go_loopw [5, 6] (fun v i wr => ∃ k : Nat, k ≤ n ∧ i = .int .i64 k ∧ wr.ownsRow w.heap.size 5 1 v (linesOf (l.take k)).length (vb (linesOf (l.take k))) ∧ New w wr) (fun _ i _ => n - (intOf i).toNat)
        case atStart => exact ⟨0, Nat.zero_le _, rfl, World.ownsRow_nil _ _ _ _, HNW.out⟩
        case round =>
          clear HNW HALL
          obtain ⟨k, hk, rfl, ho, hnw⟩ := hrel
          have HNW := Lib.hid hnw
          have HO := Lib.hid ho
          clear hnw ho
          by_cases hlt : k < n
          · have hkl : k < l.length := by rw [← HN.out]; exact hlt
            have HKL := Lib.hid hkl
            have t3 : (k : Int) < (n : Int) := by omega
            obtain ⟨g, a, rfl, hg, hat⟩ := RI.at_ HA.out hkl
            obtain ⟨y, hy⟩ : ∃ y, (l[k]'hkl) = y := ⟨_, rfl⟩
            rw [hy] at hat
            obtain ⟨b0, b1, b2, b3, b4, b5, b6, b7⟩ := hat.new hg HNW.out
            have hok : ok y = true := by rw [← hy]; exact List.all_eq_true.1 HL.out _ (List.getElem_mem hkl)
            have HONE := Lib.hid (fun W hW => rone_any y W hok hW)
            have hll := lnB_le y hok
            have hlk : (linesOf (l.take k)).length ≤ 201 * 4096 := by
              have h1 := linesOf_le (l.take k) (List.all_eq_true.2 fun i hi' => List.all_eq_true.1 HL.out i (List.mem_of_mem_take hi'))
              rw [List.length_take] at h1
              have : min k l.length ≤ 4096 := by omega
              omega
            have HT : Hid (linesOf (l.take (k + 1)) = linesOf (l.take k) ++ (lnB y ++ [10])) := Lib.hid (by rw [lines_take hkl, hy])
            generalize lnB y = x at *
            obtain ⟨o, nn, d, s, u, f, m, z⟩ := y
            simp only at b0 b1 b2 b3 b4 b5 b6 b7
            have s0 := fun W => add_str x [10] (by simp; omega) W
            clear hat hok
            go_wp2_with (first
              | (go_at_call 37; (with_reducible refine (HONE.out _ (HP.out.new HNW.out)).mono ?_); rintro e w2 ⟨rfl, hn2⟩; have HN2 := Lib.hid (New.then HNW.out hn2); have HO2 := Lib.hid (own_new HO.out hn2); clear hn2)
              | (at_builtin; refine Lib.wpList_append_own_string _ rfl (.tmp 28) (.tmp 34) 42 9 rfl w.heap.size 5 i0 Tryz.underlying42 Tryz.underlying9 hi hz0 hz1 hz2 _ _ _ rfl HO2.out ⟨(x ++ [10]).toArray⟩ rfl (by show _ + (x ++ [10]).toArray.size ≤ _; simp [maxLen]; omega) (by show _ + (x ++ [10]).toArray.size ≤ _; simp; omega) HN2.out.size ?_; intro v3 w3 hown3 hg3 hat3))
            have hN3 : New w w3 := HN2.out.grown hg3 HN2.out.size (fun j hj => (HO2.out.lt j hj).1)
            have hO3 : w3.ownsRow w.heap.size 5 1 v3 (linesOf (l.take (k + 1))).length (vb (linesOf (l.take (k + 1)))) := by
              rw [HT.out, vb_append, List.length_append, ← strCells_vb (x ++ [10])]
              have e : (⟨(x ++ [10]).toArray⟩ : ByteArray).size = (x ++ [10]).length := by show (x ++ [10]).toArray.size = _; simp
              rw [e] at hown3
              exact hown3
            clear hown3 hg3 hat3
            go_roundw
            case rel => exact ⟨k + 1, by omega, by go_num, hO3, hN3⟩
            case measure => simp [intOf]; omega
          · obtain rfl : n = k := by omega
            have t3 : ¬ (n : Int) < (n : Int) := by omega
            have hcv := conv_own HO.out
            have hX : X = (0, linesOf l) := by rw [← HX.out, if_pos HL.out]
            rw [List.take_of_length_le (by rw [← HN.out]; exact Nat.le_refl _)] at hcv
            have HXX := Lib.hid hX
            clear hX
            go_wp2
            refine bodyPost_ret (v := .tuple #[.string ⟨(linesOf l).toArray⟩, .int .i64 0]) (by simp [results, Tryz.results14, go_sem]) rfl ?_
            rw [HXX.out]
            exact ⟨rfl, HNW.out⟩
end Go.Proofs.YtcebfihjcglnoaaGreatDoor.txt

namespace Go.Proofs.YtcebfihjcglnoaaGreatDoor.txt
open Go.RowKit Go.Proofs.YtcebfihjcglnoaaGreatDoor.mem Go.Proofs.YtcebfihjcglnoaaGreatDoor.kit Go.Proofs.YtcebfihjcglnoaaGreatDoor.ins
set_option linter.unusedVariables false
set_option linter.unusedSimpArgs false

theorem show_x (A : Option Addr) (n c : Nat) (l : List In) (x : Bs) (e0 : Int) (w : World) (hn : n = l.length) (hnm : n ≤ maxLen) (hA : RI w A l) (hN : NamesAt w) (hP : PowT w) (h : showM l = (e0, x)) :
    Calls Tryz.prog 13 #[.slice A n c] w fun e w' => e = .returned (.tuple #[.string ⟨x.toArray⟩, .int .i64 e0]) ∧ New w w' := by
  have h1 := show_any A n c l w hn hnm hA hN hP
  rw [h] at h1
  exact h1
theorem rshow_x (A : Option Addr) (n c : Nat) (l : List In) (x : Bs) (e0 : Int) (w : World) (hn : n = l.length) (hnm : n ≤ maxLen) (hA : RI w A l) (hP : PowT w) (h : showM l = (e0, x)) :
    Calls Tryz.prog 14 #[.slice A n c] w fun e w' => e = .returned (.tuple #[.string ⟨x.toArray⟩, .int .i64 e0]) ∧ New w w' := by
  have h1 := rshow_any A n c l w hn hnm hA hP
  rw [h] at h1
  exact h1

set_option maxRecDepth 100000 in
set_option maxHeartbeats 4000000 in
theorem TextShows_any (T : TypeId) (q : Addr) (A : Option Addr) (n c : Nat) (l : List In) (w : World) (hn : n = l.length) (hA : RI w A l) (hT : TW w T q) :
    Calls Tryz.prog 4 #[.slice A n c] w fun e w' => e = .returned (.bool true) ∧ New w w' := by
  by_cases h3 : 5000 < n
  · have t1 : (5000 : Int) < (n : Int) := by omega
    have HT := Lib.hid hT
    clear hn hA hT
    go_enter Tryz.func4, Tryz.ntmps4
    go_wp2_with (go_at_call 8; (with_reducible refine (awake_any T q _ HT.out).mono ?_); rintro e w1 ⟨rfl, hn1⟩)
    go_ret
    exact ⟨rfl, hn1⟩
  · have hl : n ≤ 1099511627776 := by omega
    have hm : n ≤ maxLen := by unfold maxLen; omega
    obtain ⟨s, hs⟩ : ∃ s, showM l = s := ⟨_, rfl⟩
    obtain ⟨e0, x⟩ := s
    have HX := Lib.hid hs
    have HN := Lib.hid hn
    have HA := Lib.hid hA
    have HT := Lib.hid hT
    have t1 : ¬ (5000 : Int) < (n : Int) := by omega
    obtain ⟨y, hy⟩ : ∃ y : ByteArray, (⟨x.toArray⟩ : ByteArray) = y := ⟨_, rfl⟩
    have HY := Lib.hid hy
    have HS1 : Hid (∀ W A c, RI W A l → TW W T q → Calls Tryz.prog 13 #[.slice A n c] W fun e w' => e = .returned (.tuple #[.string y, .int .i64 e0]) ∧ New W w') := Lib.hid (fun W A c h1 h2 => hy ▸ show_x A n c l x e0 W hn hm h1 h2.n h2.p hs)
    have HS2 : Hid (∀ W A c, RI W A l → TW W T q → Calls Tryz.prog 14 #[.slice A n c] W fun e w' => e = .returned (.tuple #[.string y, .int .i64 e0]) ∧ New W w') := Lib.hid (fun W A c h1 h2 => hy ▸ rshow_x A n c l x e0 W hn hm h1 h2.p hs)
    clear hn hA hT hs hy
    go_enter Tryz.func4, Tryz.ntmps4
    go_wp2_with (first
      | (go_at_call 12; (with_reducible refine (lentIns_any A n c l w hl HN.out HA.out).mono ?_); rintro e w1 ⟨⟨rfl, hb⟩, hn1⟩; have HB := Lib.hid hb; have hlt := hb.lt; have HL : Hid (RI w1 (some ⟨w.heap.size, 0, none⟩) l) := Lib.hid (lent_ri hb); have HN1 := Lib.hid hn1; clear hb hn1)
      | (go_at_call 13; (with_reducible refine (HS1.out w1 (some ⟨w.heap.size, 0, none⟩) (n + 12) HL.out (HT.out.new HN1.out)).mono ?_); rintro e w2 ⟨rfl, hn2⟩; have HN2 := Lib.hid hn2; clear hn2)
      | (go_at_call 14; (with_reducible refine (HS2.out w2 A c (HA.out.new (New.then HN1.out HN2.out)) (HT.out.new (New.then HN1.out HN2.out))).mono ?_); rintro e w3 ⟨rfl, hn3⟩; have HN3 := Lib.hid hn3; clear hn3)
      | (go_at_call 15; (with_reducible refine (keptIns_any w.heap.size A n c l w3 hl HN.out (HB.out.below (New.then HN2.out HN3.out) hlt) (HA.out.new (New.then (New.then HN1.out HN2.out) HN3.out))).mono ?_); rintro e w4 ⟨rfl, hn4⟩; have HN4 := Lib.hid (New.then (New.then (New.then HN1.out HN2.out) HN3.out) hn4); clear hn4)
      | (go_at_call 8; (with_reducible refine (awake_any T q _ (HT.out.new HN4.out)).mono ?_); rintro e w5 ⟨rfl, hn5⟩))
    go_ret
    exact ⟨rfl, New.then HN4.out hn5⟩
end Go.Proofs.YtcebfihjcglnoaaGreatDoor.txt
