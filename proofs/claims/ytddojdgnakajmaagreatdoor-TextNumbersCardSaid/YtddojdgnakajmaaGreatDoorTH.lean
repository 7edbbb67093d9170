/-
  Contracts of text: a line's reader: the kinds of lines.
-/
import Derived.Test.YtddojdgnakajmaaGreatDoorTD
namespace Go.Proofs.YtddojdgnakajmaaGreatDoor.txt
open Go.RowKit Go.Proofs.YtddojdgnakajmaaGreatDoor.mem Go.Proofs.YtddojdgnakajmaaGreatDoor.kit Go.Proofs.YtddojdgnakajmaaGreatDoor.ins
set_option linter.unusedVariables false
set_option linter.unusedSimpArgs false

theorem size_set (w : World) (p : Addr) (v : Value) : (w.setCell p v).heap.size = w.heap.size := by simp [World.setCell]
theorem one2_ok (C : Cx) (x : UInt8) (L r : List Bs) (lb : Bs) (i : In) (w : World) (z : Nat) (h : St C L lb i w) (hz : w.heap.size = z) (hr : pOne x L = some r) :
    Calls Tryz.prog 95 #[.pointer (some ⟨C.g, 0, none⟩), .slice (some ⟨z, 0, none⟩) 1 1] (w.alloc (.cells #[.string ⟨#[x]⟩] 9)) fun e w' => ∃ v, e = .returned v ∧ St C r lb i w' := by
  subst hz
  exact one1_ok C x L r lb i w h hr
theorem one2_no (C : Cx) (x : UInt8) (L : List Bs) (lb : Bs) (i : In) (w : World) (z : Nat) (h : St C L lb i w) (hz : w.heap.size = z) (hr : pOne x L = none) :
    Calls Tryz.prog 95 #[.pointer (some ⟨C.g, 0, none⟩), .slice (some ⟨z, 0, none⟩) 1 1] (w.alloc (.cells #[.string ⟨#[x]⟩] 9)) (Sno C) := by
  subst hz
  exact one1_no C x L lb i w h hr

set_option maxRecDepth 100000 in
theorem operator_ok (C : Cx) (L L1 L2 L3 : List Bs) (t : Bs) (i j3 : In) (n : Int) (w : World) (h : St C L [] i w) (h1 : pReg L = some (n, L1)) (h2 : pOne 44 L1 = some L2) (h3 : pSec { i with dst := n } L2 = some (j3, L3)) :
    Calls Tryz.prog 38 #[.pointer (some ⟨C.g, 0, none⟩), .pointer (some ⟨C.gi, 0, none⟩)] w (Sok C (.tuple #[]) L3 [] j3) := by
  have H0 := Lib.hid h
  have P1 := Lib.hid h1
  have P2 := Lib.hid h2
  have P3 := Lib.hid h3
  clear h h1 h2 h3
  go_enter Tryz.func38, Tryz.ntmps38
  go_wp2_with (go_at_call 94; refine (register_any C L L1 [] i n _ H0.out P1.out).mono ?_; rintro e w1 ⟨rfl, hs⟩; obtain ⟨x2, z2⟩ := hs.at2; have H1 := Lib.hid (hs.dst n); clear hs)
  go_wp2_with (go_at_call 95; refine (one2_ok C 44 L1 L2 [] { i with dst := n } _ _ H1.out (by first | exact size_set _ _ _ | exact (size_set _ _ _).trans (size_set _ _ _) | rfl) P2.out).mono ?_; rintro e w2 ⟨v2, rfl, hs⟩; have H2 := Lib.hid hs; clear hs)
  go_wp2_with (go_at_call 96; refine (second_ok C L2 L3 [] { i with dst := n } j3 _ H2.out P3.out).mono ?_; rintro e w3 ⟨rfl, hs⟩; have H3 := Lib.hid hs; clear hs)
  refine Great.bodyPost_end0 rfl rfl ?_
  exact ⟨rfl, H3.out⟩

set_option maxRecDepth 100000 in
theorem operator_no1 (C : Cx) (L : List Bs) (t : Bs) (i j3 : In) (n : Int) (w : World) (h : St C L [] i w) (h1 : pReg L = none) :
    Calls Tryz.prog 38 #[.pointer (some ⟨C.g, 0, none⟩), .pointer (some ⟨C.gi, 0, none⟩)] w (Sno C) := by
  have H0 := Lib.hid h
  have P1 := Lib.hid h1
  clear h h1
  go_enter Tryz.func38, Tryz.ntmps38
  go_wp2_with (go_at_call 94; refine (register_no C L [] i _ H0.out P1.out).mono ?_; rintro e w1 ⟨rfl, hs⟩)
  exact ⟨rfl, rfl, hs⟩

set_option maxRecDepth 100000 in
theorem operator_no2 (C : Cx) (L L1 : List Bs) (t : Bs) (i j3 : In) (n : Int) (w : World) (h : St C L [] i w) (h1 : pReg L = some (n, L1)) (h2 : pOne 44 L1 = none) :
    Calls Tryz.prog 38 #[.pointer (some ⟨C.g, 0, none⟩), .pointer (some ⟨C.gi, 0, none⟩)] w (Sno C) := by
  have H0 := Lib.hid h
  have P1 := Lib.hid h1
  have P2 := Lib.hid h2
  clear h h1 h2
  go_enter Tryz.func38, Tryz.ntmps38
  go_wp2_with (go_at_call 94; refine (register_any C L L1 [] i n _ H0.out P1.out).mono ?_; rintro e w1 ⟨rfl, hs⟩; obtain ⟨x2, z2⟩ := hs.at2; have H1 := Lib.hid (hs.dst n); clear hs)
  go_wp2_with (go_at_call 95; refine (one2_no C 44 L1 [] { i with dst := n } _ _ H1.out (by first | exact size_set _ _ _ | exact (size_set _ _ _).trans (size_set _ _ _) | rfl) P2.out).mono ?_; rintro e w2 ⟨rfl, hs⟩)
  exact ⟨rfl, rfl, hs⟩

set_option maxRecDepth 100000 in
theorem operator_no3 (C : Cx) (L L1 L2 : List Bs) (t : Bs) (i j3 : In) (n : Int) (w : World) (h : St C L [] i w) (h1 : pReg L = some (n, L1)) (h2 : pOne 44 L1 = some L2) (h3 : pSec { i with dst := n } L2 = none) :
    Calls Tryz.prog 38 #[.pointer (some ⟨C.g, 0, none⟩), .pointer (some ⟨C.gi, 0, none⟩)] w (Sno C) := by
  have H0 := Lib.hid h
  have P1 := Lib.hid h1
  have P2 := Lib.hid h2
  have P3 := Lib.hid h3
  clear h h1 h2 h3
  go_enter Tryz.func38, Tryz.ntmps38
  go_wp2_with (go_at_call 94; refine (register_any C L L1 [] i n _ H0.out P1.out).mono ?_; rintro e w1 ⟨rfl, hs⟩; obtain ⟨x2, z2⟩ := hs.at2; have H1 := Lib.hid (hs.dst n); clear hs)
  go_wp2_with (go_at_call 95; refine (one2_ok C 44 L1 L2 [] { i with dst := n } _ _ H1.out (by first | exact size_set _ _ _ | exact (size_set _ _ _).trans (size_set _ _ _) | rfl) P2.out).mono ?_; rintro e w2 ⟨v2, rfl, hs⟩; have H2 := Lib.hid hs; clear hs)
  go_wp2_with (go_at_call 96; refine (second_no C L2 [] { i with dst := n } _ H2.out P3.out).mono ?_; rintro e w3 ⟨rfl, hs⟩)
  exact ⟨rfl, rfl, hs⟩

set_option maxRecDepth 100000 in
theorem neg_ok (C : Cx) (L L1 : List Bs) (t : Bs) (i : In) (n : Int) (w : World) (h : St C L [] i w) (h1 : pReg L = some (n, L1)) :
    Calls Tryz.prog 39 #[.pointer (some ⟨C.g, 0, none⟩), .pointer (some ⟨C.gi, 0, none⟩)] w (Sok C (.tuple #[]) L1 [] { i with dst := n }) := by
  have H0 := Lib.hid h
  have P1 := Lib.hid h1
  clear h h1
  go_enter Tryz.func39, Tryz.ntmps39
  go_wp2_with (go_at_call 94; refine (register_any C L L1 [] i n _ H0.out P1.out).mono ?_; rintro e w1 ⟨rfl, hs⟩; obtain ⟨x2, z2⟩ := hs.at2; have H1 := Lib.hid (hs.dst n); clear hs)
  refine Great.bodyPost_end0 rfl rfl ?_
  exact ⟨rfl, H1.out⟩

set_option maxRecDepth 100000 in
theorem neg_no1 (C : Cx) (L : List Bs) (t : Bs) (i : In) (n : Int) (w : World) (h : St C L [] i w) (h1 : pReg L = none) :
    Calls Tryz.prog 39 #[.pointer (some ⟨C.g, 0, none⟩), .pointer (some ⟨C.gi, 0, none⟩)] w (Sno C) := by
  have H0 := Lib.hid h
  have P1 := Lib.hid h1
  clear h h1
  go_enter Tryz.func39, Tryz.ntmps39
  go_wp2_with (go_at_call 94; refine (register_no C L [] i _ H0.out P1.out).mono ?_; rintro e w1 ⟨rfl, hs⟩)
  exact ⟨rfl, rfl, hs⟩

set_option maxRecDepth 100000 in
theorem load_ok (C : Cx) (L L1 L2 L3 : List Bs) (t : Bs) (i : In) (n n1 m1 : Int) (w : World) (h : St C L [] i w) (h1 : pReg L = some (n, L1)) (h2 : pOne 44 L1 = some L2) (h3 : pCell L2 = some (n1, m1, L3)) :
    Calls Tryz.prog 40 #[.pointer (some ⟨C.g, 0, none⟩), .pointer (some ⟨C.gi, 0, none⟩)] w (Sok C (.tuple #[]) L3 [] { i with dst := n, src := n1, off := m1 }) := by
  have H0 := Lib.hid h
  have P1 := Lib.hid h1
  have P2 := Lib.hid h2
  have P3 := Lib.hid h3
  clear h h1 h2 h3
  go_enter Tryz.func40, Tryz.ntmps40
  go_wp2_with (go_at_call 94; refine (register_any C L L1 [] i n _ H0.out P1.out).mono ?_; rintro e w1 ⟨rfl, hs⟩; obtain ⟨x2, z2⟩ := hs.at2; have H1 := Lib.hid (hs.dst n); clear hs)
  go_wp2_with (go_at_call 95; refine (one2_ok C 44 L1 L2 [] { i with dst := n } _ _ H1.out (by first | exact size_set _ _ _ | exact (size_set _ _ _).trans (size_set _ _ _) | rfl) P2.out).mono ?_; rintro e w2 ⟨v2, rfl, hs⟩; have H2 := Lib.hid hs; clear hs)
  go_wp2_with (go_at_call 97; refine (cell_any C L2 L3 [] { i with dst := n } n1 m1 _ H2.out P3.out).mono ?_; rintro e w3 ⟨rfl, hs⟩; obtain ⟨x3, z3⟩ := hs.at3; obtain ⟨x5, z5⟩ := hs.at5; have H3 := Lib.hid ((hs.src n1).off m1); clear hs)
  refine Great.bodyPost_end0 rfl rfl ?_
  exact ⟨rfl, H3.out⟩

set_option maxRecDepth 100000 in
theorem load_no1 (C : Cx) (L : List Bs) (t : Bs) (i : In) (n n1 m1 : Int) (w : World) (h : St C L [] i w) (h1 : pReg L = none) :
    Calls Tryz.prog 40 #[.pointer (some ⟨C.g, 0, none⟩), .pointer (some ⟨C.gi, 0, none⟩)] w (Sno C) := by
  have H0 := Lib.hid h
  have P1 := Lib.hid h1
  clear h h1
  go_enter Tryz.func40, Tryz.ntmps40
  go_wp2_with (go_at_call 94; refine (register_no C L [] i _ H0.out P1.out).mono ?_; rintro e w1 ⟨rfl, hs⟩)
  exact ⟨rfl, rfl, hs⟩

set_option maxRecDepth 100000 in
theorem load_no2 (C : Cx) (L L1 : List Bs) (t : Bs) (i : In) (n n1 m1 : Int) (w : World) (h : St C L [] i w) (h1 : pReg L = some (n, L1)) (h2 : pOne 44 L1 = none) :
    Calls Tryz.prog 40 #[.pointer (some ⟨C.g, 0, none⟩), .pointer (some ⟨C.gi, 0, none⟩)] w (Sno C) := by
  have H0 := Lib.hid h
  have P1 := Lib.hid h1
  have P2 := Lib.hid h2
  clear h h1 h2
  go_enter Tryz.func40, Tryz.ntmps40
  go_wp2_with (go_at_call 94; refine (register_any C L L1 [] i n _ H0.out P1.out).mono ?_; rintro e w1 ⟨rfl, hs⟩; obtain ⟨x2, z2⟩ := hs.at2; have H1 := Lib.hid (hs.dst n); clear hs)
  go_wp2_with (go_at_call 95; refine (one2_no C 44 L1 [] { i with dst := n } _ _ H1.out (by first | exact size_set _ _ _ | exact (size_set _ _ _).trans (size_set _ _ _) | rfl) P2.out).mono ?_; rintro e w2 ⟨rfl, hs⟩)
  exact ⟨rfl, rfl, hs⟩

set_option maxRecDepth 100000 in
theorem load_no3 (C : Cx) (L L1 L2 : List Bs) (t : Bs) (i : In) (n n1 m1 : Int) (w : World) (h : St C L [] i w) (h1 : pReg L = some (n, L1)) (h2 : pOne 44 L1 = some L2) (h3 : pCell L2 = none) :
    Calls Tryz.prog 40 #[.pointer (some ⟨C.g, 0, none⟩), .pointer (some ⟨C.gi, 0, none⟩)] w (Sno C) := by
  have H0 := Lib.hid h
  have P1 := Lib.hid h1
  have P2 := Lib.hid h2
  have P3 := Lib.hid h3
  clear h h1 h2 h3
  go_enter Tryz.func40, Tryz.ntmps40
  go_wp2_with (go_at_call 94; refine (register_any C L L1 [] i n _ H0.out P1.out).mono ?_; rintro e w1 ⟨rfl, hs⟩; obtain ⟨x2, z2⟩ := hs.at2; have H1 := Lib.hid (hs.dst n); clear hs)
  go_wp2_with (go_at_call 95; refine (one2_ok C 44 L1 L2 [] { i with dst := n } _ _ H1.out (by first | exact size_set _ _ _ | exact (size_set _ _ _).trans (size_set _ _ _) | rfl) P2.out).mono ?_; rintro e w2 ⟨v2, rfl, hs⟩; have H2 := Lib.hid hs; clear hs)
  go_wp2_with (go_at_call 97; refine (cell_no C L2 [] { i with dst := n } _ H2.out P3.out).mono ?_; rintro e w3 ⟨rfl, hs⟩)
  exact ⟨rfl, rfl, hs⟩

set_option maxRecDepth 100000 in
theorem put_ok (C : Cx) (L L1 L2 L3 : List Bs) (t : Bs) (i j3 : In) (n1 m1 : Int) (w : World) (h : St C L [] i w) (h1 : pCell L = some (n1, m1, L1)) (h2 : pOne 44 L1 = some L2) (h3 : pSec { i with dst := n1, off := m1 } L2 = some (j3, L3)) :
    Calls Tryz.prog 41 #[.pointer (some ⟨C.g, 0, none⟩), .pointer (some ⟨C.gi, 0, none⟩)] w (Sok C (.tuple #[]) L3 [] j3) := by
  have H0 := Lib.hid h
  have P1 := Lib.hid h1
  have P2 := Lib.hid h2
  have P3 := Lib.hid h3
  clear h h1 h2 h3
  go_enter Tryz.func41, Tryz.ntmps41
  go_wp2_with (go_at_call 97; refine (cell_any C L L1 [] i n1 m1 _ H0.out P1.out).mono ?_; rintro e w1 ⟨rfl, hs⟩; obtain ⟨x2, z2⟩ := hs.at2; obtain ⟨x5, z5⟩ := hs.at5; have H1 := Lib.hid ((hs.dst n1).off m1); clear hs)
  go_wp2_with (go_at_call 95; refine (one2_ok C 44 L1 L2 [] { i with dst := n1, off := m1 } _ _ H1.out (by first | exact size_set _ _ _ | exact (size_set _ _ _).trans (size_set _ _ _) | rfl) P2.out).mono ?_; rintro e w2 ⟨v2, rfl, hs⟩; have H2 := Lib.hid hs; clear hs)
  go_wp2_with (go_at_call 96; refine (second_ok C L2 L3 [] { i with dst := n1, off := m1 } j3 _ H2.out P3.out).mono ?_; rintro e w3 ⟨rfl, hs⟩; have H3 := Lib.hid hs; clear hs)
  refine Great.bodyPost_end0 rfl rfl ?_
  exact ⟨rfl, H3.out⟩

set_option maxRecDepth 100000 in
theorem put_no1 (C : Cx) (L : List Bs) (t : Bs) (i j3 : In) (n1 m1 : Int) (w : World) (h : St C L [] i w) (h1 : pCell L = none) :
    Calls Tryz.prog 41 #[.pointer (some ⟨C.g, 0, none⟩), .pointer (some ⟨C.gi, 0, none⟩)] w (Sno C) := by
  have H0 := Lib.hid h
  have P1 := Lib.hid h1
  clear h h1
  go_enter Tryz.func41, Tryz.ntmps41
  go_wp2_with (go_at_call 97; refine (cell_no C L [] i _ H0.out P1.out).mono ?_; rintro e w1 ⟨rfl, hs⟩)
  exact ⟨rfl, rfl, hs⟩

set_option maxRecDepth 100000 in
theorem put_no2 (C : Cx) (L L1 : List Bs) (t : Bs) (i j3 : In) (n1 m1 : Int) (w : World) (h : St C L [] i w) (h1 : pCell L = some (n1, m1, L1)) (h2 : pOne 44 L1 = none) :
    Calls Tryz.prog 41 #[.pointer (some ⟨C.g, 0, none⟩), .pointer (some ⟨C.gi, 0, none⟩)] w (Sno C) := by
  have H0 := Lib.hid h
  have P1 := Lib.hid h1
  have P2 := Lib.hid h2
  clear h h1 h2
  go_enter Tryz.func41, Tryz.ntmps41
  go_wp2_with (go_at_call 97; refine (cell_any C L L1 [] i n1 m1 _ H0.out P1.out).mono ?_; rintro e w1 ⟨rfl, hs⟩; obtain ⟨x2, z2⟩ := hs.at2; obtain ⟨x5, z5⟩ := hs.at5; have H1 := Lib.hid ((hs.dst n1).off m1); clear hs)
  go_wp2_with (go_at_call 95; refine (one2_no C 44 L1 [] { i with dst := n1, off := m1 } _ _ H1.out (by first | exact size_set _ _ _ | exact (size_set _ _ _).trans (size_set _ _ _) | rfl) P2.out).mono ?_; rintro e w2 ⟨rfl, hs⟩)
  exact ⟨rfl, rfl, hs⟩

set_option maxRecDepth 100000 in
theorem put_no3 (C : Cx) (L L1 L2 : List Bs) (t : Bs) (i j3 : In) (n1 m1 : Int) (w : World) (h : St C L [] i w) (h1 : pCell L = some (n1, m1, L1)) (h2 : pOne 44 L1 = some L2) (h3 : pSec { i with dst := n1, off := m1 } L2 = none) :
    Calls Tryz.prog 41 #[.pointer (some ⟨C.g, 0, none⟩), .pointer (some ⟨C.gi, 0, none⟩)] w (Sno C) := by
  have H0 := Lib.hid h
  have P1 := Lib.hid h1
  have P2 := Lib.hid h2
  have P3 := Lib.hid h3
  clear h h1 h2 h3
  go_enter Tryz.func41, Tryz.ntmps41
  go_wp2_with (go_at_call 97; refine (cell_any C L L1 [] i n1 m1 _ H0.out P1.out).mono ?_; rintro e w1 ⟨rfl, hs⟩; obtain ⟨x2, z2⟩ := hs.at2; obtain ⟨x5, z5⟩ := hs.at5; have H1 := Lib.hid ((hs.dst n1).off m1); clear hs)
  go_wp2_with (go_at_call 95; refine (one2_ok C 44 L1 L2 [] { i with dst := n1, off := m1 } _ _ H1.out (by first | exact size_set _ _ _ | exact (size_set _ _ _).trans (size_set _ _ _) | rfl) P2.out).mono ?_; rintro e w2 ⟨v2, rfl, hs⟩; have H2 := Lib.hid hs; clear hs)
  go_wp2_with (go_at_call 96; refine (second_no C L2 [] { i with dst := n1, off := m1 } _ H2.out P3.out).mono ?_; rintro e w3 ⟨rfl, hs⟩)
  exact ⟨rfl, rfl, hs⟩

set_option maxRecDepth 100000 in
theorem question_ok (C : Cx) (L L1 L2 L3 L4 L5 : List Bs) (t : Bs) (i j3 j3 j5 : In) (n : Int) (w : World) (h : St C L [] i w) (h1 : pReg L = some (n, L1)) (h2 : pOne 44 L1 = some L2) (h3 : pSec { i with dst := n } L2 = some (j3, L3)) (h4 : pOne 44 L3 = some L4) (h5 : pTo j3 L4 = some (j5, t, L5)) :
    Calls Tryz.prog 43 #[.pointer (some ⟨C.g, 0, none⟩), .pointer (some ⟨C.gi, 0, none⟩)] w (Sok C (.tuple #[]) L5 t j5) := by
  have H0 := Lib.hid h
  have P1 := Lib.hid h1
  have P2 := Lib.hid h2
  have P3 := Lib.hid h3
  have P4 := Lib.hid h4
  have P5 := Lib.hid h5
  clear h h1 h2 h3 h4 h5
  go_enter Tryz.func43, Tryz.ntmps43
  go_wp2_with (go_at_call 94; refine (register_any C L L1 [] i n _ H0.out P1.out).mono ?_; rintro e w1 ⟨rfl, hs⟩; obtain ⟨x2, z2⟩ := hs.at2; have H1 := Lib.hid (hs.dst n); clear hs)
  go_wp2_with (go_at_call 95; refine (one2_ok C 44 L1 L2 [] { i with dst := n } _ _ H1.out (by first | exact size_set _ _ _ | exact (size_set _ _ _).trans (size_set _ _ _) | rfl) P2.out).mono ?_; rintro e w2 ⟨v2, rfl, hs⟩; have H2 := Lib.hid hs; clear hs)
  go_wp2_with (go_at_call 96; refine (second_ok C L2 L3 [] { i with dst := n } j3 _ H2.out P3.out).mono ?_; rintro e w3 ⟨rfl, hs⟩; have H3 := Lib.hid hs; clear hs)
  go_wp2_with (go_at_call 95; refine (one2_ok C 44 L3 L4 [] j3 _ _ H3.out (by first | exact size_set _ _ _ | exact (size_set _ _ _).trans (size_set _ _ _) | rfl) P4.out).mono ?_; rintro e w4 ⟨v4, rfl, hs⟩; have H4 := Lib.hid hs; clear hs)
  go_wp2_with (go_at_call 42; refine (jump_ok C L4 L5 [] t j3 j5 _ H4.out P5.out).mono ?_; rintro e w5 ⟨rfl, hs⟩; have H5 := Lib.hid hs; clear hs)
  refine Great.bodyPost_end0 rfl rfl ?_
  exact ⟨rfl, H5.out⟩

set_option maxRecDepth 100000 in
theorem question_no1 (C : Cx) (L : List Bs) (t : Bs) (i j3 j3 j5 : In) (n : Int) (w : World) (h : St C L [] i w) (h1 : pReg L = none) :
    Calls Tryz.prog 43 #[.pointer (some ⟨C.g, 0, none⟩), .pointer (some ⟨C.gi, 0, none⟩)] w (Sno C) := by
  have H0 := Lib.hid h
  have P1 := Lib.hid h1
  clear h h1
  go_enter Tryz.func43, Tryz.ntmps43
  go_wp2_with (go_at_call 94; refine (register_no C L [] i _ H0.out P1.out).mono ?_; rintro e w1 ⟨rfl, hs⟩)
  exact ⟨rfl, rfl, hs⟩

set_option maxRecDepth 100000 in
theorem question_no2 (C : Cx) (L L1 : List Bs) (t : Bs) (i j3 j3 j5 : In) (n : Int) (w : World) (h : St C L [] i w) (h1 : pReg L = some (n, L1)) (h2 : pOne 44 L1 = none) :
    Calls Tryz.prog 43 #[.pointer (some ⟨C.g, 0, none⟩), .pointer (some ⟨C.gi, 0, none⟩)] w (Sno C) := by
  have H0 := Lib.hid h
  have P1 := Lib.hid h1
  have P2 := Lib.hid h2
  clear h h1 h2
  go_enter Tryz.func43, Tryz.ntmps43
  go_wp2_with (go_at_call 94; refine (register_any C L L1 [] i n _ H0.out P1.out).mono ?_; rintro e w1 ⟨rfl, hs⟩; obtain ⟨x2, z2⟩ := hs.at2; have H1 := Lib.hid (hs.dst n); clear hs)
  go_wp2_with (go_at_call 95; refine (one2_no C 44 L1 [] { i with dst := n } _ _ H1.out (by first | exact size_set _ _ _ | exact (size_set _ _ _).trans (size_set _ _ _) | rfl) P2.out).mono ?_; rintro e w2 ⟨rfl, hs⟩)
  exact ⟨rfl, rfl, hs⟩

set_option maxRecDepth 100000 in
theorem question_no3 (C : Cx) (L L1 L2 : List Bs) (t : Bs) (i j3 j3 j5 : In) (n : Int) (w : World) (h : St C L [] i w) (h1 : pReg L = some (n, L1)) (h2 : pOne 44 L1 = some L2) (h3 : pSec { i with dst := n } L2 = none) :
    Calls Tryz.prog 43 #[.pointer (some ⟨C.g, 0, none⟩), .pointer (some ⟨C.gi, 0, none⟩)] w (Sno C) := by
  have H0 := Lib.hid h
  have P1 := Lib.hid h1
  have P2 := Lib.hid h2
  have P3 := Lib.hid h3
  clear h h1 h2 h3
  go_enter Tryz.func43, Tryz.ntmps43
  go_wp2_with (go_at_call 94; refine (register_any C L L1 [] i n _ H0.out P1.out).mono ?_; rintro e w1 ⟨rfl, hs⟩; obtain ⟨x2, z2⟩ := hs.at2; have H1 := Lib.hid (hs.dst n); clear hs)
  go_wp2_with (go_at_call 95; refine (one2_ok C 44 L1 L2 [] { i with dst := n } _ _ H1.out (by first | exact size_set _ _ _ | exact (size_set _ _ _).trans (size_set _ _ _) | rfl) P2.out).mono ?_; rintro e w2 ⟨v2, rfl, hs⟩; have H2 := Lib.hid hs; clear hs)
  go_wp2_with (go_at_call 96; refine (second_no C L2 [] { i with dst := n } _ H2.out P3.out).mono ?_; rintro e w3 ⟨rfl, hs⟩)
  exact ⟨rfl, rfl, hs⟩

set_option maxRecDepth 100000 in
theorem question_no4 (C : Cx) (L L1 L2 L3 : List Bs) (t : Bs) (i j3 j3 j5 : In) (n : Int) (w : World) (h : St C L [] i w) (h1 : pReg L = some (n, L1)) (h2 : pOne 44 L1 = some L2) (h3 : pSec { i with dst := n } L2 = some (j3, L3)) (h4 : pOne 44 L3 = none) :
    Calls Tryz.prog 43 #[.pointer (some ⟨C.g, 0, none⟩), .pointer (some ⟨C.gi, 0, none⟩)] w (Sno C) := by
  have H0 := Lib.hid h
  have P1 := Lib.hid h1
  have P2 := Lib.hid h2
  have P3 := Lib.hid h3
  have P4 := Lib.hid h4
  clear h h1 h2 h3 h4
  go_enter Tryz.func43, Tryz.ntmps43
  go_wp2_with (go_at_call 94; refine (register_any C L L1 [] i n _ H0.out P1.out).mono ?_; rintro e w1 ⟨rfl, hs⟩; obtain ⟨x2, z2⟩ := hs.at2; have H1 := Lib.hid (hs.dst n); clear hs)
  go_wp2_with (go_at_call 95; refine (one2_ok C 44 L1 L2 [] { i with dst := n } _ _ H1.out (by first | exact size_set _ _ _ | exact (size_set _ _ _).trans (size_set _ _ _) | rfl) P2.out).mono ?_; rintro e w2 ⟨v2, rfl, hs⟩; have H2 := Lib.hid hs; clear hs)
  go_wp2_with (go_at_call 96; refine (second_ok C L2 L3 [] { i with dst := n } j3 _ H2.out P3.out).mono ?_; rintro e w3 ⟨rfl, hs⟩; have H3 := Lib.hid hs; clear hs)
  go_wp2_with (go_at_call 95; refine (one2_no C 44 L3 [] j3 _ _ H3.out (by first | exact size_set _ _ _ | exact (size_set _ _ _).trans (size_set _ _ _) | rfl) P4.out).mono ?_; rintro e w4 ⟨rfl, hs⟩)
  exact ⟨rfl, rfl, hs⟩

set_option maxRecDepth 100000 in
theorem question_no5 (C : Cx) (L L1 L2 L3 L4 : List Bs) (t : Bs) (i j3 j3 j5 : In) (n : Int) (w : World) (h : St C L [] i w) (h1 : pReg L = some (n, L1)) (h2 : pOne 44 L1 = some L2) (h3 : pSec { i with dst := n } L2 = some (j3, L3)) (h4 : pOne 44 L3 = some L4) (h5 : pTo j3 L4 = none) :
    Calls Tryz.prog 43 #[.pointer (some ⟨C.g, 0, none⟩), .pointer (some ⟨C.gi, 0, none⟩)] w (Sno C) := by
  have H0 := Lib.hid h
  have P1 := Lib.hid h1
  have P2 := Lib.hid h2
  have P3 := Lib.hid h3
  have P4 := Lib.hid h4
  have P5 := Lib.hid h5
  clear h h1 h2 h3 h4 h5
  go_enter Tryz.func43, Tryz.ntmps43
  go_wp2_with (go_at_call 94; refine (register_any C L L1 [] i n _ H0.out P1.out).mono ?_; rintro e w1 ⟨rfl, hs⟩; obtain ⟨x2, z2⟩ := hs.at2; have H1 := Lib.hid (hs.dst n); clear hs)
  go_wp2_with (go_at_call 95; refine (one2_ok C 44 L1 L2 [] { i with dst := n } _ _ H1.out (by first | exact size_set _ _ _ | exact (size_set _ _ _).trans (size_set _ _ _) | rfl) P2.out).mono ?_; rintro e w2 ⟨v2, rfl, hs⟩; have H2 := Lib.hid hs; clear hs)
  go_wp2_with (go_at_call 96; refine (second_ok C L2 L3 [] { i with dst := n } j3 _ H2.out P3.out).mono ?_; rintro e w3 ⟨rfl, hs⟩; have H3 := Lib.hid hs; clear hs)
  go_wp2_with (go_at_call 95; refine (one2_ok C 44 L3 L4 [] j3 _ _ H3.out (by first | exact size_set _ _ _ | exact (size_set _ _ _).trans (size_set _ _ _) | rfl) P4.out).mono ?_; rintro e w4 ⟨v4, rfl, hs⟩; have H4 := Lib.hid hs; clear hs)
  go_wp2_with (go_at_call 42; refine (jump_no C L4 j3 _ H4.out P5.out).mono ?_; rintro e w5 ⟨rfl, hs⟩)
  exact ⟨rfl, rfl, hs⟩

theorem exit_ok (C : Cx) (L : List Bs) (i : In) (w : World) (h : St C L [] i w) :
    Calls Tryz.prog 44 #[.pointer (some ⟨C.g, 0, none⟩), .pointer (some ⟨C.gi, 0, none⟩)] w (Sok C (.tuple #[]) L [] i) := by
  have H := Lib.hid h
  clear h
  go_enter Tryz.func44, Tryz.ntmps44
  go_wp2
  refine Great.bodyPost_end0 rfl rfl ?_
  exact ⟨rfl, H.out⟩
end Go.Proofs.YtddojdgnakajmaaGreatDoor.txt

namespace Go.Proofs.YtddojdgnakajmaaGreatDoor.txt
open Go.RowKit Go.Proofs.YtddojdgnakajmaaGreatDoor.mem Go.Proofs.YtddojdgnakajmaaGreatDoor.kit Go.Proofs.YtddojdgnakajmaaGreatDoor.ins
set_option linter.unusedVariables false
set_option linter.unusedSimpArgs false

/-- What the Ops' words are held in. -/
def NamesAt (w : World) : Prop := ∀ j, j < 29 → w.cell? ⟨0, j, none⟩ = some (sv (nameB j))
theorem NamesAt.new {w w' : World} (h : NamesAt w) (hn : New w w') : NamesAt w' := fun j hj => (hn.cell (p := ⟨0, j, none⟩) (block_lt_of_cell (h j hj))).trans (h j hj)
theorem dig_1 : ∀ z : Fin 10, Lib.decDigits z.val = [UInt8.ofNat (48 + z.val)] := by decide +kernel
theorem itoa1 (z : Nat) (c : UInt8) (hz : z < 10) (hc : UInt8.ofNat (48 + z) = c) (w : World) : Calls Tryz.prog 93 #[.int .i64 (z : Int)] w fun e w' => e = .returned (.string ⟨[c].toArray⟩) ∧ w = w' := by
  subst hc
  refine (Tryz.strconv_Itoa_small z (by omega) w).mono ?_
  rintro e w' ⟨rfl, rfl⟩
  exact ⟨by rw [dig_1 ⟨z, hz⟩], rfl⟩

theorem add_str (a b : Bs) (h : a.length + b.length ≤ 9223372036854775807) (W : World) : (Op.stringOp .add ⟨a.toArray⟩ ⟨b.toArray⟩).run Tryz.prog W = .ok (.string ⟨(a ++ b).toArray⟩) W := by
  rw [run_string_add_sum W ⟨a.toArray⟩ ⟨b.toArray⟩ (by show a.toArray.size + b.toArray.size ≤ _; simpa using h)]
  congr 2
theorem name_le : ∀ o : Fin 29, (nameB o.val).length ≤ 4 := by decide +kernel
set_option maxRecDepth 100000 in
theorem wordOf_any (o z : Nat) (n : Bool) (d s : Int) (u : Bool) (f m : Int) (w : World) (ho : o < 29) (hz : z < 10) (hN : NamesAt w) :
    Calls Tryz.prog 36 #[.agg #[.int .u8 (o : Int), .bool n, .int .i64 d, .int .i64 s, .bool u, .int .i64 f, .int .i64 m, .int .i64 (z : Int)]] w fun e w' => e = .returned (.string ⟨(wordB o n z).toArray⟩) ∧ New w w' := by
  have c0 := (hN o ho)
  have hlt := block_lt_of_cell c0
  have HN := Lib.hid (new1 w (.cells #[.int .u8 (o : Int), .bool n, .int .i64 d, .int .i64 s, .bool u, .int .i64 f, .int .i64 m, .int .i64 (z : Int)] 41))
  have hne : 0 ≠ w.heap.size := by have h : 0 < w.heap.size := hlt; omega
  clear hN
  have c1 : w.cell? ⟨0, o, none⟩ = some (.string ⟨(nameB o).toArray⟩) := c0
  clear c0
  have hnl : (nameB o).length ≤ 4 := name_le ⟨o, ho⟩
  have a1 := fun W => add_str (nameB o) [51, 50] (by simp; omega) W
  obtain ⟨zc, hzc⟩ : ∃ zc, UInt8.ofNat (48 + z) = zc := ⟨_, rfl⟩
  have HZC := Lib.hid hzc
  clear hzc
  have a2 := fun W => add_str (nameB o) [zc] (by simp; omega) W
  have a3 := fun W => add_str (nameB o ++ [51, 50]) [zc] (by simp; omega) W
  by_cases h0 : z = 0
  · subst h0
    clear a2 a3
    cases n
    all_goals
      go_enter Tryz.func36, Tryz.ntmps36
      go_wp2
      go_ret
      exact ⟨by simp [wordB], HN.out⟩
  · have hz0 : decide ((0 : Int) < (z : Int)) = true := by simp; omega
    have hz1 : (0 : Int) < (z : Int) := by omega
    cases n
    all_goals
      go_enter Tryz.func36, Tryz.ntmps36
      go_wp2_with (go_at_call 93; refine (itoa1 z zc hz HZC.out _).mono ?_; rintro e w1 ⟨rfl, rfl⟩)
      go_ret
      refine ⟨?_, HN.out⟩
      unfold wordB
      rw [if_neg h0, HZC.out]
      simp
end Go.Proofs.YtddojdgnakajmaaGreatDoor.txt
