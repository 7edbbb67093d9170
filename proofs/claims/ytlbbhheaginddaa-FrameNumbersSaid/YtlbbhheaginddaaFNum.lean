/-
  FrameNumbers: what its walk needs.
-/
import Derived.Test.YtlbbhheaginddaaFPuts
import Derived.Test.YtlbbhheaginddaaFScans
namespace Go.Proofs.Ytlbbhheaginddaa.fr
open Go.RowKit Go.Proofs.Ytlbbhheaginddaa.mem Go.Proofs.Ytlbbhheaginddaa.kit Go.Proofs.Ytlbbhheaginddaa.wire Go.Proofs.Ytlbbhheaginddaa.crc
set_option linter.unusedVariables false

/-- Bytes in a block of the call's own, which may be turned. -/
def Bu (W : World) (g : Nat) (l : List UInt8) : Prop := ∃ cs : Array Value, Blk W g 5 cs ∧ ∀ (i : Nat) (h : i < l.length), cs[i]? = some (.int .u8 (l[i].toNat : Int))
theorem Bu.at_ {W : World} {g i : Nat} {l : List UInt8} {b : UInt8} (h : Bu W g l) (hi : l[i]? = some b) : W.cell? ⟨g, i, none⟩ = some (.int .u8 (b.toNat : Int)) := by
  obtain ⟨cs, hb, hc⟩ := h
  obtain ⟨hlt, rfl⟩ := List.getElem?_eq_some_iff.1 hi
  exact (hb.cell i).trans (hc i hlt)
theorem Bu.set {W : World} {g i : Nat} {l : List UInt8} (h : Bu W g l) (b : UInt8) : Bu (W.setCell ⟨g, i, none⟩ (.int .u8 (b.toNat : Int))) g (l.set i b) := by
  obtain ⟨cs, hb, hc⟩ := h
  refine ⟨_, hb.set_ i _, fun k hk => ?_⟩
  have hk' : k < l.length := by simpa using hk
  have hck := hc k hk'
  have hlt := (Array.getElem?_eq_some_iff.1 hck).1
  rw [List.getElem_set]
  by_cases e : i = k
  · subst e
    rw [if_pos rfl, Array.getElem?_setIfInBounds_self_of_lt hlt]
  · rw [if_neg e, Array.getElem?_setIfInBounds_ne e]
    exact hck
theorem Bu.frozen {W : World} {g : Nat} {l : List UInt8} (h : Bu W g l) (i : Nat) : W.frozen? ⟨g, i, none⟩ = false := by
  obtain ⟨cs, hb, hc⟩ := h
  exact hb.frozen i
theorem Bu.reads {W : World} {g : Nat} {l : List UInt8} (h : Bu W g l) (n : Nat) (hn : n = l.length) : Reads W W.heap.size 1 (some ⟨g, 0, none⟩) n (vb l) := by
  subst hn
  obtain ⟨cs, hb, hc⟩ := h
  refine ⟨by rw [vb_length, Nat.mul_one], fun _ => ⟨_, rfl, hb.lt, fun j u hu => ?_⟩⟩
  have hj : j < l.length := by
    have := (List.getElem?_eq_some_iff.1 hu).1
    rwa [vb_length] at this
  rw [vb_get l j hj] at hu
  rw [Addr.add_lit, Nat.zero_add, hb.cell j, hc j hj]
  exact hu
theorem bu_of_own {W : World} {B n : Nat} {v : Value} {l : List UInt8} (h : W.ownsRow B 5 1 v l.length (vb l)) (hn : l.length = n) (h0 : 0 < n) : ∃ g c, v = .slice (some ⟨g, 0, none⟩) n c ∧ (n ≤ c ∧ c ≤ maxLen) ∧ B ≤ g ∧ Bu W g l := by
  subst hn
  obtain ⟨A, c, rfl, h1, h2, hr⟩ := own_len h
  rcases h.2 with ⟨e, e0⟩ | ⟨g, cap, cur, e, hB, hb, _⟩
  · omega
  · simp only [Value.slice.injEq] at e
    obtain ⟨rfl, -, -⟩ := e
    refine ⟨g, c, rfl, ⟨h1, h2⟩, hB, cur, hb, fun i hi => ?_⟩
    obtain ⟨ad, ea, hlt, hc⟩ := hr.2 h0
    simp only [Option.some.injEq] at ea
    subst ea
    have := hc i _ (vb_get l i hi)
    rw [Addr.add_lit, Nat.zero_add] at this
    rw [← this]
    exact (Blk.cell (cs := cur) (t := 5) hb i).symm
theorem ac_nil (w : World) : Ac w (.slice none 0 0) [] w := ⟨World.ownsRow_nil _ _ _ _, new_refl w⟩
set_option maxRecDepth 100000 in
theorem copy_any (A : Option Addr) (n c : Nat) (l : List UInt8) (w : World) (hn : n = l.length) (hl : n ≤ 1000000) (hA : Reads w w.heap.size 1 A n (vb l)) :
    Calls Try.prog 9 #[.slice A n c] w fun e w' => ∃ v, e = .returned v ∧ Ac w v l w' := by
  have HA := Lib.hid hA
  have HN := Lib.hid hn
  clear hA hn
  go_enter Try.func9, Try.ntmps9
  go_wp2_with (first
    | (at_builtin; refine wpList_ac (w0 := w) (z := []) (l := l) (by rfl) (.tmp 4) (.tmp 5) (by rfl) (ac_nil w) (by rfl) (by rw [← HN.out]; rfl) (by rw [← HN.out]; exact HA.out) (by have := HN.out; simp; omega) ?_; intro v2 w2 hac2; have HAC := Lib.hid hac2; clear hac2)
    | fail)
  go_ret
  exact ⟨_, rfl, by simpa using HAC.out⟩

theorem frArr_one (W : World) (t : TypeId) (z1 : Int) (A1 : Option Addr) (n1 c1 : Nat) (l1 : List UInt8) (h1 : n1 = l1.length) (r1 : Reads W W.heap.size 1 A1 n1 (vb l1)) :
    FrArr (W.alloc (.cells #[.int .i64 z1, .slice A1 n1 c1] t)) (some ⟨W.heap.size, 0, none⟩) [⟨z1, A1, c1, l1⟩] := by
  subst h1
  have hb := Blk.new W t #[.int .i64 z1, .slice A1 l1.length c1]
  intro i hi
  match i, hi with
  | 0, _ => exact ⟨_, rfl, by simp, (hb.cell 0).trans rfl, (hb.cell 1).trans rfl, r1.new (alloc_new W _)⟩
  | i + 1, hi => exact absurd hi (by simp)
theorem frArr_two (W : World) (t : TypeId) (z1 z2 : Int) (A1 A2 : Option Addr) (n1 n2 c1 c2 : Nat) (l1 l2 : List UInt8) (h1 : n1 = l1.length) (h2 : n2 = l2.length) (r1 : Reads W W.heap.size 1 A1 n1 (vb l1)) (r2 : Reads W W.heap.size 1 A2 n2 (vb l2)) :
    FrArr (W.alloc (.cells #[.int .i64 z1, .slice A1 n1 c1, .int .i64 z2, .slice A2 n2 c2] t)) (some ⟨W.heap.size, 0, none⟩) [⟨z1, A1, c1, l1⟩, ⟨z2, A2, c2, l2⟩] := by
  subst h1
  subst h2
  have hb := Blk.new W t #[.int .i64 z1, .slice A1 l1.length c1, .int .i64 z2, .slice A2 l2.length c2]
  intro i hi
  match i, hi with
  | 0, _ => exact ⟨_, rfl, by simp, (hb.cell 0).trans rfl, (hb.cell 1).trans rfl, r1.new (alloc_new W _)⟩
  | 1, _ => exact ⟨_, rfl, by simp, (hb.cell 2).trans rfl, (hb.cell 3).trans rfl, r2.new (alloc_new W _)⟩
  | i + 2, hi => exact absurd hi (by simp)
theorem frArr_three (W : World) (t : TypeId) (z1 z2 z3 : Int) (A1 A2 A3 : Option Addr) (n1 n2 n3 c1 c2 c3 : Nat) (l1 l2 l3 : List UInt8) (h1 : n1 = l1.length) (h2 : n2 = l2.length) (h3 : n3 = l3.length) (r1 : Reads W W.heap.size 1 A1 n1 (vb l1)) (r2 : Reads W W.heap.size 1 A2 n2 (vb l2)) (r3 : Reads W W.heap.size 1 A3 n3 (vb l3)) :
    FrArr (W.alloc (.cells #[.int .i64 z1, .slice A1 n1 c1, .int .i64 z2, .slice A2 n2 c2, .int .i64 z3, .slice A3 n3 c3] t)) (some ⟨W.heap.size, 0, none⟩) [⟨z1, A1, c1, l1⟩, ⟨z2, A2, c2, l2⟩, ⟨z3, A3, c3, l3⟩] := by
  subst h1
  subst h2
  subst h3
  have hb := Blk.new W t #[.int .i64 z1, .slice A1 l1.length c1, .int .i64 z2, .slice A2 l2.length c2, .int .i64 z3, .slice A3 l3.length c3]
  intro i hi
  match i, hi with
  | 0, _ => exact ⟨_, rfl, by simp, (hb.cell 0).trans rfl, (hb.cell 1).trans rfl, r1.new (alloc_new W _)⟩
  | 1, _ => exact ⟨_, rfl, by simp, (hb.cell 2).trans rfl, (hb.cell 3).trans rfl, r2.new (alloc_new W _)⟩
  | 2, _ => exact ⟨_, rfl, by simp, (hb.cell 4).trans rfl, (hb.cell 5).trans rfl, r3.new (alloc_new W _)⟩
  | i + 3, hi => exact absurd hi (by simp)

theorem puts_l (W : World) (z : Int) : Calls Try.prog 4 #[.slice (some ⟨W.heap.size + 1, 0, none⟩) 2 2] ((W.alloc (.cells #[.int .u8 5] 5)).alloc (.cells #[.int .i64 1, .slice none 0 0, .int .i64 z, .slice (some ⟨W.heap.size, 0, none⟩) 1 1] 26)) fun e w' => e = .returned (.bool true) ∧ New W w' := by
  have hr : Reads (W.alloc (.cells #[.int .u8 5] 5)) (W.alloc (.cells #[.int .u8 5] 5)).heap.size 1 (some ⟨W.heap.size, 0, none⟩) 1 (vb [5]) := reads_new W _ _
  have hf := frArr_two (W.alloc (.cells #[.int .u8 5] 5)) 26 1 z none (some ⟨W.heap.size, 0, none⟩) 0 1 0 1 [] [5] rfl rfl Reads.none_ hr
  rw [show (W.alloc (.cells #[.int .u8 5] 5)).heap.size = W.heap.size + 1 by simp] at hf
  exact (FramePuts_any (some ⟨W.heap.size + 1, 0, none⟩) 2 2 _ _ rfl ⟨by omega, by unfold maxLen; omega⟩ (by omega) (fun i h => by
    match i, h with
    | 0, _ => exact Nat.zero_le _
    | 1, _ => exact (show 1 ≤ 140737488351232 by omega)
    | i + 2, h => exact absurd h (by simp)) hf.of).mono fun e w' k => ⟨k.1, New.then (New.then (alloc_new W _) (alloc_new _ _)) k.2⟩
theorem puts_r (W : World) (z : Int) : Calls Try.prog 4 #[.slice (some ⟨W.heap.size + 1, 0, none⟩) 2 2] ((W.alloc (.cells #[.int .u8 6] 5)).alloc (.cells #[.int .i64 z, .slice (some ⟨W.heap.size, 0, none⟩) 1 1, .int .i64 (-1), .slice none 0 0] 26)) fun e w' => e = .returned (.bool true) ∧ New W w' := by
  have hr : Reads (W.alloc (.cells #[.int .u8 6] 5)) (W.alloc (.cells #[.int .u8 6] 5)).heap.size 1 (some ⟨W.heap.size, 0, none⟩) 1 (vb [6]) := reads_new W _ _
  have hf := frArr_two (W.alloc (.cells #[.int .u8 6] 5)) 26 z (-1) (some ⟨W.heap.size, 0, none⟩) none 1 0 1 0 [6] [] rfl rfl hr Reads.none_
  rw [show (W.alloc (.cells #[.int .u8 6] 5)).heap.size = W.heap.size + 1 by simp] at hf
  exact (FramePuts_any (some ⟨W.heap.size + 1, 0, none⟩) 2 2 _ _ rfl ⟨by omega, by unfold maxLen; omega⟩ (by omega) (fun i h => by
    match i, h with
    | 0, _ => exact (show 1 ≤ 140737488351232 by omega)
    | 1, _ => exact Nat.zero_le _
    | i + 2, h => exact absurd h (by simp)) hf.of).mono fun e w' k => ⟨k.1, New.then (New.then (alloc_new W _) (alloc_new _ _)) k.2⟩

theorem zrow_vb (n : Nat) : zrow (.int .u8 0) n = (vb (List.replicate n 0)).toArray := by
  unfold zrow madeCells vb
  apply Array.ext'
  simp [Value.cells, Nat.mod_one]
  apply List.ext_getElem
  · simp
  · intro i h1 h2
    simp
theorem reads_vb (W : World) (l : List UInt8) (n : Nat) (hn : n = l.length) : Reads (W.alloc (.cells (vb l).toArray 5)) (W.alloc (.cells (vb l).toArray 5)).heap.size 1 (some ⟨W.heap.size, 0, none⟩) n (vb l) := by
  subst hn
  refine ⟨by rw [vb_length, Nat.mul_one], fun _ => ⟨_, rfl, by simp, fun j u hu => ?_⟩⟩
  rw [Addr.add_lit, Nat.zero_add, (Blk.new W _ _).cell j]
  simpa using hu
/-- A new row of zeros, and the same from its second place on. -/
theorem long_any (W : World) (n : Nat) (h : 1 < n) : ∃ D D2 : List UInt8, D.length = n - 1 ∧ D2.length = n ∧ Reads (W.alloc (.cells (zrow (.int .u8 0) n) 5)) (W.alloc (.cells (zrow (.int .u8 0) n) 5)).heap.size 1 (some ⟨W.heap.size, 1, none⟩) (n - 1) (vb D) ∧ Reads (W.alloc (.cells (zrow (.int .u8 0) n) 5)) (W.alloc (.cells (zrow (.int .u8 0) n) 5)).heap.size 1 (some ⟨W.heap.size, 0, none⟩) n (vb D2) := by
  have h1 := reads_vb W (List.replicate n 0) n (by simp)
  rw [← zrow_vb] at h1
  have h2 := h1.cut (k := 1) (cap := n) (by omega) (Nat.le_refl _)
  rw [if_neg (by omega)] at h2
  refine ⟨(List.replicate n 0).drop 1, List.replicate n 0, by simp, by simp, ?_, h1⟩
  simpa [Addr.add_lit, vb, ← List.map_drop] using h2

/-- Put of one frame as long as may be. -/
theorem put_long (W : World) (A1 : Option Addr) (c1 : Nat) (D : List UInt8) (hD : D.length = 262144) (hr : Reads W W.heap.size 1 A1 262144 (vb D)) :
    Calls Try.prog 5 #[.slice (some ⟨W.heap.size, 0, none⟩) 1 1] (W.alloc (.cells #[.int .i64 0, .slice A1 262144 c1] 31)) fun e w' => ∃ (bs : List UInt8) (A : Option Addr) (c : Nat), e = .returned (.tuple #[.slice A 262153 c, .int .i64 0]) ∧ bs.length = 262153 ∧ (∃ f : Fr, told bs = [f] ∧ f.2.length = 262144 ∧ (fbs (told bs)).length = 262153) ∧ Reads w' w'.heap.size 1 A 262153 (vb bs) ∧ (262153 ≤ c ∧ c ≤ maxLen) ∧ New W w' := by
  have hf := frArr_one W 31 0 A1 262144 c1 D hD.symm hr
  obtain ⟨x, hx⟩ : ∃ x : Fi, x = ⟨0, A1, c1, D⟩ := ⟨_, rfl⟩
  have hxo : x.Ok := by rw [hx]; exact ⟨by simp, by simp, by simp only; omega⟩
  have hxd : x.fr.2.length = 262144 := by rw [hx]; exact hD
  rw [← hx] at hf
  obtain ⟨f, hfr⟩ : ∃ f, x.fr = f := ⟨_, rfl⟩
  rw [hfr] at hxd
  have hlen : (fbs [f]).length = 262153 := by rw [fbs_cons, fbs_nil, List.append_nil, fb_length, hxd]
  have htold : told (fbs [f]) = [f] := by
    have h := (scan_fbs [f] (fun y hy => by rw [List.mem_singleton.1 hy, hxd]; exact Nat.le_refl _) []).1
    have h0 : told [] = [] := rfl
    rwa [List.append_nil, h0, List.append_nil] at h
  refine (put_ok (some ⟨W.heap.size, 0, none⟩) 1 1 [x] _ rfl (fun i h => by
    match i, h with
    | 0, _ => exact hxo
    | i + 1, h => exact absurd h (by simp)) (by simp) (by rw [List.map_cons, List.map_nil, hfr, hlen]; omega) hf).mono fun e w' k => ?_
  obtain ⟨A, c, he, ho, hn⟩ := k
  rw [List.map_cons, List.map_nil, hfr, hlen] at he ho
  obtain ⟨h1, h2, -⟩ := own_typed ho
  exact ⟨fbs [f], A, c, he, hlen, ⟨f, htold, hxd, by rw [htold, hlen]⟩, h2, h1, New.then (alloc_new W _) hn⟩
theorem put_longer (W : World) (A1 : Option Addr) (c1 : Nat) (D : List UInt8) (hD : D.length = 262145) (hr : Reads W W.heap.size 1 A1 262145 (vb D)) :
    Calls Try.prog 5 #[.slice (some ⟨W.heap.size, 0, none⟩) 2 2] (W.alloc (.cells #[.int .i64 3, .slice none 0 0, .int .i64 0, .slice A1 262145 c1] 31)) fun e w' => e = .returned (.tuple #[.slice none 0 0, .int .i64 3]) ∧ New W w' := by
  have hf := frArr_two W 31 3 0 none A1 0 262145 0 c1 [] D rfl hD.symm Reads.none_ hr
  obtain ⟨x, hx⟩ : ∃ x : Fi, x = ⟨0, A1, c1, D⟩ := ⟨_, rfl⟩
  have hxw : x.Wrong 3 := by rw [hx]; exact Or.inr ⟨rfl, by simp, by simp, by simp only; omega⟩
  rw [← hx] at hf
  refine (put_err (some ⟨W.heap.size, 0, none⟩) 2 2 [⟨3, none, 0, []⟩, x] 1 3 _ rfl (by simp) (fun i h hij => by
    match i, h with
    | 0, _ => exact ⟨by simp, by simp, by simp⟩
    | i + 1, h => omega) (fun _ => hxw) (by simp) hf).mono fun e w' k => ⟨k.1, New.then (alloc_new W _) k.2⟩

theorem ref_three (W : World) : Calls Try.prog 7 #[.slice (some ⟨W.heap.size + 1 + 1, 0, none⟩) 3 3] (((W.alloc (.cells #[.int .u8 1, .int .u8 2, .int .u8 3] 5)).alloc (.cells #[.int .u8 0, .int .u8 0, .int .u8 0, .int .u8 0, .int .u8 0] 5)).alloc (.cells #[.int .i64 9, .slice (some ⟨W.heap.size, 0, none⟩) 3 3, .int .i64 255, .slice none 0 0, .int .i64 0, .slice (some ⟨W.heap.size + 1, 0, none⟩) 5 5] 36)) fun e w' => ∃ (bs : List UInt8) (g c : Nat), e = .returned (.tuple #[.slice (some ⟨g, 0, none⟩) 35 c, .int .i64 0]) ∧ bs.length = 35 ∧ Reads w' w'.heap.size 1 (some ⟨g, 0, none⟩) 35 (vb bs) ∧ (35 ≤ c ∧ c ≤ maxLen) ∧ New W w' := by
  have r1 : Reads (W.alloc (.cells #[.int .u8 1, .int .u8 2, .int .u8 3] 5)) (W.alloc (.cells #[.int .u8 1, .int .u8 2, .int .u8 3] 5)).heap.size 1 (some ⟨W.heap.size, 0, none⟩) 3 (vb [1, 2, 3]) := reads_vb W [1, 2, 3] 3 rfl
  have r2 := r1.new (alloc_new _ (.cells #[.int .u8 0, .int .u8 0, .int .u8 0, .int .u8 0, .int .u8 0] 5))
  have r3 : Reads ((W.alloc (.cells #[.int .u8 1, .int .u8 2, .int .u8 3] 5)).alloc (.cells #[.int .u8 0, .int .u8 0, .int .u8 0, .int .u8 0, .int .u8 0] 5)) ((W.alloc (.cells #[.int .u8 1, .int .u8 2, .int .u8 3] 5)).alloc (.cells #[.int .u8 0, .int .u8 0, .int .u8 0, .int .u8 0, .int .u8 0] 5)).heap.size 1 (some ⟨W.heap.size + 1, 0, none⟩) 5 (vb [0, 0, 0, 0, 0]) := by
    have h := reads_vb (W.alloc (.cells #[.int .u8 1, .int .u8 2, .int .u8 3] 5)) [0, 0, 0, 0, 0] 5 rfl
    rw [show (W.alloc (.cells #[.int .u8 1, .int .u8 2, .int .u8 3] 5)).heap.size = W.heap.size + 1 by simp] at h
    exact h
  have hf := frArr_three ((W.alloc (.cells #[.int .u8 1, .int .u8 2, .int .u8 3] 5)).alloc (.cells #[.int .u8 0, .int .u8 0, .int .u8 0, .int .u8 0, .int .u8 0] 5)) 36 9 255 0 (some ⟨W.heap.size, 0, none⟩) none (some ⟨W.heap.size + 1, 0, none⟩) 3 0 5 3 0 5 [1, 2, 3] [] [0, 0, 0, 0, 0] rfl rfl rfl r2 Reads.none_ r3
  rw [show ((W.alloc (.cells #[.int .u8 1, .int .u8 2, .int .u8 3] 5)).alloc (.cells #[.int .u8 0, .int .u8 0, .int .u8 0, .int .u8 0, .int .u8 0] 5)).heap.size = W.heap.size + 1 + 1 by simp] at hf
  obtain ⟨fs, hfs⟩ : ∃ fs : List Fi, fs = [⟨9, some ⟨W.heap.size, 0, none⟩, 3, [1, 2, 3]⟩, ⟨255, none, 0, []⟩, ⟨0, some ⟨W.heap.size + 1, 0, none⟩, 5, [0, 0, 0, 0, 0]⟩] := ⟨_, rfl⟩
  have hlen : (fbs (fs.map Fi.fr)).length = 35 := by rw [hfs]; simp [fbs_cons, fbs_nil, fb_length, Fi.fr]
  have hl3 : fs.length = 3 := by rw [hfs]; rfl
  have hdl : ∀ i (h : i < fs.length), fs[i].data.length ≤ 5 := fun i h => by
    subst hfs
    match i, h with
    | 0, _ => exact (show 3 ≤ 5 by omega)
    | 1, _ => exact Nat.zero_le _
    | 2, _ => exact Nat.le_refl _
    | i + 3, h => exact absurd h (by simp)
  have hok : ∀ i (h : i < fs.length), fs[i].Ok := fun i h => by
    have h5 := hdl i h
    subst hfs
    match i, h, h5 with
    | 0, _, _ => exact ⟨by simp, by simp, by simp⟩
    | 1, _, _ => exact ⟨by simp, by simp, by simp⟩
    | 2, _, _ => exact ⟨by simp, by simp, by simp⟩
    | i + 3, h, _ => exact absurd h (by simp)
  rw [← hfs] at hf
  refine (rput_ok (some ⟨W.heap.size + 1 + 1, 0, none⟩) 3 3 fs _ hl3.symm hok (by omega) (by omega) (fun i h => Nat.le_trans (hdl i h) (by omega)) hf).mono fun e w' k => ?_
  obtain ⟨A, c, he, ho, hn⟩ := k
  rw [hlen] at he ho
  obtain ⟨h1, h2, -⟩ := own_typed ho
  obtain ⟨g, cap, hv, -, -⟩ := ho.form (by omega)
  have hA : A = some ⟨g, 0, none⟩ := by injection hv
  subst hA
  exact ⟨_, g, c, he, hlen, h2, h1, New.then (New.then (New.then (alloc_new W _) (alloc_new _ _)) (alloc_new _ _)) hn⟩
/-- What is scanned of one frame as long as may be. -/
theorem scan_long {w w' : World} {bs : List UInt8} {e : Ending} (hsd : ScD w bs e w') (f : Fr) (ht : told bs = [f]) (hf : f.2.length = 262144) (hu : (fbs (told bs)).length = 262153) :
    ∃ (g c : Nat) (q : Bool) (a : Option Addr) (cc : Nat), e = .returned (.tuple #[.slice (some ⟨g, 0, none⟩) 1 c, .int .i64 262153, .bool q]) ∧ w'.cell? ⟨g, 1, none⟩ = some (.slice a 262144 cc) ∧ New w w' := by
  obtain ⟨fs, A, c, N, hN, hfl, hfr, hok, rfl, hf6, hn6, -⟩ := scd_parts hsd
  have hN1 : N = 1 := by rw [hN, ht]; rfl
  subst hN1
  obtain ⟨g, rfl, hg, h0, h1, -⟩ := hf6 0 (by omega)
  have hd : fs[0].data.length = 262144 := by
    rw [ht] at hfr
    have h := congrArg (fun l => l[0]?) hfr
    have hlt : 0 < fs.length := by omega
    simp only [List.getElem?_map, List.getElem?_eq_getElem hlt, Option.map_some, List.getElem?_cons_zero, Option.some.injEq] at h
    rw [← hf, ← h]
    rfl
  rw [hd] at h1
  rw [hu]
  exact ⟨g, c, _, _, _, rfl, h1, hn6⟩
theorem scans_lit (W : World) (l : List UInt8) (n : Nat) (hn : n = l.length) (hl : n ≤ 100) : Calls Try.prog 8 #[.slice (some ⟨W.heap.size, 0, none⟩) n n] (W.alloc (.cells (vb l).toArray 5)) fun e w' => e = .returned (.bool true) ∧ New W w' :=
  (scans_any (some ⟨W.heap.size, 0, none⟩) n n l _ hn (by omega) ⟨Nat.le_refl _, by unfold maxLen; omega⟩ (reads_vb W l n hn)).mono fun e w' k => ⟨k.1, New.then (alloc_new W _) k.2⟩
theorem turn_u8 (b : UInt8) (k : Nat) (hk : k < 8) : ∃ y : UInt8, bits BinOp.xor IntKind.u8 (b.toNat : Int) ((2 : Int) ^ k) = (y.toNat : Int) ∧ bits BinOp.xor IntKind.u8 (b.toNat : Int) (IntKind.u8.wrap ((2 : Int) ^ k)) = (y.toNat : Int) ∧ bits BinOp.xor IntKind.u8 (b.toNat : Int) ((2 : Int) ^ k % 256) = (y.toNat : Int) := by
  have hp : 2 ^ k < 256 := Nat.lt_of_lt_of_le (Nat.pow_lt_pow_right (by decide) hk) (by decide)
  obtain ⟨q, hq⟩ : ∃ q, 2 ^ k = q := ⟨_, rfl⟩
  have e : (2 : Int) ^ k = ((q : Nat) : Int) := by rw [← hq]; simp
  rw [hq] at hp
  have hb := b.toNat_lt
  have hx : b.toNat ^^^ q < 256 := Nat.xor_lt_two_pow (n := 8) hb hp
  refine ⟨UInt8.ofNat (b.toNat ^^^ q), ?_⟩
  have hy : ((UInt8.ofNat (b.toNat ^^^ q)).toNat : Int) = ((b.toNat ^^^ q : Nat) : Int) := by rw [UInt8.toNat_ofNat']; omega
  have h1 : bits BinOp.xor IntKind.u8 (b.toNat : Int) (q : Int) = ((b.toNat ^^^ q : Nat) : Int) := u8_xor_nat _ _ hb hp
  rw [hy, e, IntWalk.u8_in _ ⟨by omega, by omega⟩, show (q : Int) % 256 = (q : Int) by omega]
  exact ⟨h1, h1, h1⟩
end Go.Proofs.Ytlbbhheaginddaa.fr
