/-
  Contracts of ins: Put.
-/
import Derived.Test.YtmkonhfgmkdhoaaDoorInsL
import Derived.Test.YtmkonhfgmkdhoaaDoorInsG
namespace Go.Proofs.YtmkonhfgmkdhoaaDoor.ins
open Go.RowKit Go.Proofs.YtmkonhfgmkdhoaaDoor.mem Go.Proofs.YtmkonhfgmkdhoaaDoor.kit
set_option linter.unusedVariables false

theorem right_x (o : Int) (n : Bool) (d s : Int) (u : Bool) (f m z : Int) (B : Bool) (h : ok ⟨o, n, d, s, u, f, m, z⟩ = B) (w : World) :
    Calls Tryd.prog 17 #[.agg #[.int .u8 o, .bool n, .int .i64 d, .int .i64 s, .bool u, .int .i64 f, .int .i64 m, .int .i64 z]] w fun e w' => e = .returned (.bool B) ∧ New w w' := h ▸ Right_any ⟨o, n, d, s, u, f, m, z⟩ w
theorem bs_eight (i : In) : ∃ y0 y1 y2 y3 y4 y5 y6 y7, bs i = [y0, y1, y2, y3, y4, y5, y6, y7] := ⟨_, _, _, _, _, _, _, _, rfl⟩
abbrev yc (y : UInt8) : Value := .int .u8 (y.toNat : Int)
theorem bytes_x (o : Int) (n : Bool) (d s : Int) (u : Bool) (f m z : Int) (y0 y1 y2 y3 y4 y5 y6 y7 : UInt8) (hb : bs ⟨o, n, d, s, u, f, m, z⟩ = [y0, y1, y2, y3, y4, y5, y6, y7]) (w : World) (h : ok ⟨o, n, d, s, u, f, m, z⟩ = true) (hT : TAt w) :
    Calls Tryd.prog 20 #[.agg #[.int .u8 o, .bool n, .int .i64 d, .int .i64 s, .bool u, .int .i64 f, .int .i64 m, .int .i64 z]] w fun e w' => e = .returned (.agg #[yc y0, yc y1, yc y2, yc y3, yc y4, yc y5, yc y6, yc y7]) ∧ New w w' := by
  have := bytesOf_any ⟨o, n, d, s, u, f, m, z⟩ w h hT
  rw [hb] at this
  exact this
theorem reads_arr (w : World) (t : TypeId) (y0 y1 y2 y3 y4 y5 y6 y7 : UInt8) : Reads (w.alloc (.cells #[yc y0, yc y1, yc y2, yc y3, yc y4, yc y5, yc y6, yc y7] t)) (w.alloc (.cells #[yc y0, yc y1, yc y2, yc y3, yc y4, yc y5, yc y6, yc y7] t)).heap.size 1 (some ⟨w.heap.size, 0, none⟩) 8 (vb [y0, y1, y2, y3, y4, y5, y6, y7]) :=
  ⟨rfl, fun _ => ⟨_, rfl, by simp, fun j v hv => by
    rw [Addr.add_lit, Nat.zero_add, (Blk.new w t #[yc y0, yc y1, yc y2, yc y3, yc y4, yc y5, yc y6, yc y7]).cell j, ← hv]
    simp only [List.getElem?_toArray, vb, List.map_cons, List.map_nil]⟩⟩

/-- The bytes of instructions, one behind the other. -/
def flat (l : List In) : List UInt8 := l.flatMap bs
theorem flat_length : ∀ (l : List In), (flat l).length = 8 * l.length
  | [] => rfl
  | i :: l => by
    have := flat_length l
    simp only [flat, List.flatMap_cons, List.length_append, bs_length, List.length_cons] at this ⊢
    omega
theorem flat_snoc (l : List In) (i : In) : flat (l ++ [i]) = flat l ++ bs i := by simp [flat]
def putE (l : List In) : Int := if 4096 < l.length then 3 else if l.all ok then 0 else 4
def putB (l : List In) : List UInt8 := if 4096 < l.length then [] else if l.all ok then flat l else []

theorem ret_pair {a : Value} {x y : Int} (h : x = y) : Ending.returned (.tuple #[a, .int .i64 x]) = .returned (.tuple #[a, .int .i64 y]) := by rw [h]
def PutD (w : World) (l : List In) (e : Ending) (w' : World) : Prop :=
  ∃ A c, e = .returned (.tuple #[.slice A (putB l).length c, .int .i64 (putE l)]) ∧ w'.ownsRow w.heap.size 5 1 (.slice A (putB l).length c) (putB l).length (vb (putB l)) ∧ New w w'

theorem putD_no {w w' : World} {l : List In} {x : Int} (hE : putE l = x) (hB : putB l = []) (hn : New w w') : PutD w l (.returned (.tuple #[.slice none 0 0, .int .i64 x])) w' := by
  refine ⟨none, 0, ?_, ?_, hn⟩
  · rw [hB, hE]; rfl
  · rw [hB]; exact World.ownsRow_nil _ _ _ _
theorem put_long {l : List In} (h : 4096 < l.length) : putE l = 3 ∧ putB l = [] := by simp [putE, putB, h]
theorem put_bad {l : List In} (h : ¬ 4096 < l.length) (k : Nat) (hk : k < l.length) (ho : ok l[k] = false) : putE l = 4 ∧ putB l = [] := by
  have : l.all ok = false := by
    rw [Bool.eq_false_iff]
    intro ha
    rw [List.all_eq_true] at ha
    rw [ha _ (List.getElem_mem hk)] at ho
    cases ho
  simp [putE, putB, h, this]
theorem all_snoc (l : List In) (k : Nat) (h : k < l.length) (ha : (l.take k).all ok = true) (ho : ok l[k] = true) : (l.take (k + 1)).all ok = true := by
  rw [← List.take_append_getElem h, List.all_append, ha]
  simp [ho]
theorem flat_take (l : List In) (k : Nat) (h : k < l.length) : flat (l.take (k + 1)) = flat (l.take k) ++ bs l[k] := by
  rw [← List.take_append_getElem h, flat_snoc]

set_option maxRecDepth 100000 in
set_option maxHeartbeats 2000000 in
theorem put_any (A : Option Addr) (n c : Nat) (l : List In) (w : World) (hn : n = l.length) (hl : n ≤ 1099511627776) (hA : RI w A l) (hT : TAt w) :
    Calls Tryd.prog 8 #[.slice A n c] w (PutD w l) := by
  obtain ⟨i0, hi, hz0, hz1, hz2⟩ := info_parts byte_info
  have HN := Lib.hid hn
  have HA := Lib.hid hA
  have HT := Lib.hid hT
  clear hn hA hT
  by_cases hg : 4096 < n
  · have HG := Lib.hid (put_long (l := l) (by have := HN.out; omega))
    go_enter Tryd.func8, Tryd.ntmps8
    go_wp2
    go_ret2
    exact putD_no HG.out.1 HG.out.2 (new_refl w)
  · go_enter Tryd.func8, Tryd.ntmps8
    go_wp2
    go_loopw [4, 13] (fun v i wr => ∃ k : Nat, k ≤ n ∧ i = .int .i64 k ∧ (l.take k).all ok = true ∧ wr.ownsRow w.heap.size 5 1 v (8 * k) (vb (flat (l.take k))) ∧ New w wr) (fun _ i _ => n - (intOf i).toNat)
    case atStart => exact ⟨0, Nat.zero_le _, rfl, rfl, World.ownsRow_nil _ _ _ _, new_refl _⟩
    case round =>
      obtain ⟨k, hk, rfl, hall, hown, hnw⟩ := hrel
      have HNW := Lib.hid hnw
      have HALL := Lib.hid hall
      have HOWN := Lib.hid hown
      clear hnw hall hown
      by_cases hlt : k < n
      · have hlf : k < l.length := by have := HN.out; omega
        obtain ⟨g, o, rfl, hgb, ha⟩ := HA.out.at_ hlf
        obtain ⟨x, hx⟩ : ∃ x, l[k] = x := ⟨_, rfl⟩
        rw [hx] at ha
        have HX := Lib.hid hx
        clear hx
        obtain ⟨ox, nx, dx, sx, ux, fx, mx, zx⟩ := x
        obtain ⟨a0, a1, a2, a3, a4, a5, a6, a7⟩ := ha.new hgb HNW.out
        simp only at a0 a1 a2 a3 a4 a5 a6 a7
        clear ha hgb
        obtain ⟨B, hB⟩ : ∃ B, ok ⟨ox, nx, dx, sx, ux, fx, mx, zx⟩ = B := ⟨_, rfl⟩
        have HB := Lib.hid hB
        clear hB
        have hN1 := New.then HNW.out (new1 wr (.cells #[.int .u8 ox, .bool nx, .int .i64 dx, .int .i64 sx, .bool ux, .int .i64 fx, .int .i64 mx, .int .i64 zx] 37))
        have hb1 := Blk.new wr 37 #[.int .u8 ox, .bool nx, .int .i64 dx, .int .i64 sx, .bool ux, .int .i64 fx, .int .i64 mx, .int .i64 zx]
        have HN1 := Lib.hid hN1
        have HB1 := Lib.hid hb1
        clear hN1 hb1
        rcases B with _ | _
        · go_wp2_with (go_at_call 17; refine (right_x _ _ _ _ _ _ _ _ false HB.out _).mono ?_; rintro e w2 ⟨rfl, hn2⟩)
          have H := put_bad (l := l) (by have := HN.out; omega) k hlf (by rw [HX.out]; exact HB.out)
          have HH := Lib.hid H
          clear H
          have hnn := New.then HN1.out hn2
          go_ret2
          exact putD_no HH.out.1 HH.out.2 hnn
        · obtain ⟨y0, y1, y2, y3, y4, y5, y6, y7, hy⟩ := bs_eight ⟨ox, nx, dx, sx, ux, fx, mx, zx⟩
          have HY := Lib.hid hy
          clear hy
          go_wp2_with (first
            | (go_at_call 17; refine (right_x _ _ _ _ _ _ _ _ true HB.out _).mono ?_; rintro e w2 ⟨rfl, hn2⟩; have hB2 := HB1.out.below hn2 HB1.out.lt; have x0 := hB2.cell 0; have x1 := hB2.cell 1; have x2 := hB2.cell 2; have x3 := hB2.cell 3; have x4 := hB2.cell 4; have x5 := hB2.cell 5; have x6 := hB2.cell 6; have x7 := hB2.cell 7; simp only [List.getElem?_toArray, List.getElem?_cons_zero, List.getElem?_cons_succ] at x0 x1 x2 x3 x4 x5 x6 x7; have hN2 := New.then HN1.out hn2; have HB2 := Lib.hid hB2; clear hB2)
            | (go_at_call 20; refine (bytes_x _ _ _ _ _ _ _ _ _ _ _ _ _ _ _ _ HY.out _ HB.out (HT.out.new hN2)).mono ?_; rintro e w3 ⟨rfl, hn3⟩; have hN3 := New.then hN2 hn3)
            | (at_builtin; refine wpList_append_any _ rfl (.tmp 22) (.tmp 23) 23 rfl w.heap.size 5 i0 _ 1 1 Tryd.underlying23 hi hz0 hz1 hz2 rfl (by omega) _ _ _ rfl (own_new HOWN.out (New.then (New.then (New.then (new1 wr _) hn2) hn3) (new1 w3 _))) _ _ _ _ _ rfl (reads_arr w3 _ _ _ _ _ _ _ _ _) (vb_one _) (by unfold maxLen; omega) (by omega) (by have := hN3.size; simp; omega) ?_; intro v4 w4 hown4 hg4 hat4))
          have hN4 : New w w4 := (hN3.alloc hN3.size _).grown hg4 (by have := hN3.size; simp; omega) (fun j hj => (HOWN.out.lt j hj).1)
          have e4 : vb (flat (l.take k)) ++ vb [y0, y1, y2, y3, y4, y5, y6, y7] = vb (flat (l.take (k + 1))) := by rw [flat_take l k hlf, HX.out, HY.out, vb_append]
          rw [e4, show 8 * k + 8 = 8 * (k + 1) by omega] at hown4
          have hall4 := all_snoc l k hlf HALL.out (by rw [HX.out]; exact HB.out)
          clear e4
          go_roundw
          case rel => exact ⟨k + 1, by omega, by go_num, hall4, hown4, hN4⟩
          case measure => simp [intOf]; omega
      · obtain rfl : k = n := by omega
        have h1 := HALL.out
        have h2 := HOWN.out
        have hn := HN.out
        rw [hn, List.take_length] at h1 h2
        have hE : putE l = 0 := by simp only [putE]; rw [if_neg (by omega), if_pos h1]
        have hB : putB l = flat l := by simp only [putB]; rw [if_neg (by omega), if_pos h1]
        rw [← flat_length, ← hB] at h2
        have HE := Lib.hid hE
        have H2 := Lib.hid h2
        have hnw := HNW.out
        clear h1 h2 hE hB hn
        go_wp2
        go_ret2
        obtain ⟨A', c', rfl, -, -, -⟩ := own_len H2.out
        exact ⟨A', c', ret_pair HE.out.symm, H2.out, hnw⟩
end Go.Proofs.YtmkonhfgmkdhoaaDoor.ins
