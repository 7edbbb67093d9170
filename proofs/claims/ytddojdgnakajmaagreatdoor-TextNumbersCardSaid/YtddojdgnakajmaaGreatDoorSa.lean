/-
  What the closed law of layer 7 calls of the library.
-/
import Derived.Test.YtddojdgnakajmaaGreatDoorPv
import Derived.Laws.IdiomStrings
namespace Go.Proofs.YtddojdgnakajmaaGreatDoor.txt
open Go.RowKit Go.Proofs.YtddojdgnakajmaaGreatDoor.mem Go.Proofs.YtddojdgnakajmaaGreatDoor.kit Go.Proofs.YtddojdgnakajmaaGreatDoor.ins
set_option linter.unusedVariables false
set_option linter.unusedSimpArgs false

theorem splitK_mem (sep : List UInt8) : ∀ (k : Nat) (s x : List UInt8), x ∈ Lib.splitK sep 0 k s → x.length ≤ s.length ∧ ∀ b ∈ x, b ∈ s
  | 0, s, x, h => by
    have e : x = s := by simpa [Lib.splitK] using h
    subst e
    exact ⟨Nat.le_refl _, fun b hb => hb⟩
  | k + 1, s, x, h => by
    unfold Lib.splitK at h
    split at h
    · have e : x = s := by simpa using h
      subst e
      exact ⟨Nat.le_refl _, fun b hb => hb⟩
    · rcases List.mem_cons.1 h with e | h
      · subst e
        exact ⟨by rw [List.length_take]; omega, fun b hb => List.mem_of_mem_take hb⟩
      · obtain ⟨h1, h2⟩ := splitK_mem sep k _ x h
        rw [List.length_drop] at h1
        exact ⟨by omega, fun b hb => List.mem_of_mem_drop (h2 b hb)⟩
theorem map_string : ∀ (l : List ByteArray), l.map Value.string = vs (l.map (·.data.toList))
  | [] => rfl
  | x :: l => by
    have ih := map_string l
    simp only [List.map_cons, ih, vs]
theorem vs_at {xs : List Bs} {k : Nat} (h : k < xs.length) : (vs xs).toArray[k]? = some (.string ⟨xs[k].toArray⟩) := by
  simp [vs, h]

/-- A row of strings, made. -/
def SpD (w : World) (s : Bs) (e : Ending) (w' : World) : Prop := ∃ xs : List Bs, e = .returned (.slice (some ⟨w.heap.size, 0, none⟩) xs.length xs.length) ∧ Blk w' w.heap.size 9 (vs xs).toArray ∧ New w w' ∧ xs.length ≤ s.length + 1 ∧ ∀ x ∈ xs, x.length ≤ s.length ∧ ∀ b ∈ x, b ∈ s
theorem split_row (s : ByteArray) (c : UInt8) (w : World) (h : MaxT w) (hs : s.size ≤ 1000000) : Calls Tryz.prog 9 #[.string s, .string ⟨#[c]⟩] w (SpD w s.data.toList) := by
  obtain ⟨m, hm⟩ := h
  refine (Tryz.strings_Split s ⟨#[c]⟩ m w (by omega) hm (by show 1 ≤ 1; omega)).mono ?_
  rintro e w' ⟨rfl, rfl⟩
  have hl : (Lib.splitB ⟨#[c]⟩ 0 (Lib.countB s ⟨#[c]⟩) s).length = Lib.countB s ⟨#[c]⟩ + 1 := Lib.splitB_all ⟨#[c]⟩ (by show 1 ≤ 1; omega) 0 _ s rfl
  have hle : Lib.countB s ⟨#[c]⟩ ≤ s.size := Lib.countB_le ⟨#[c]⟩ (by show 1 ≤ 1; omega) s.size s (Nat.le_refl _)
  have hd := Lib.splitB_data ⟨#[c]⟩ 0 (Lib.countB s ⟨#[c]⟩) s
  have hsz : s.data.toList.length = s.size := Array.length_toList
  refine ⟨(Lib.splitB ⟨#[c]⟩ 0 (Lib.countB s ⟨#[c]⟩) s).map (·.data.toList), ?_, ?_, new1 w _, ?_, ?_⟩
  · rw [List.length_map, hl]
  · rw [← map_string]
    exact Blk.new w _ _
  · rw [List.length_map, hl, hsz]; omega
  · intro x hx
    rw [hd] at hx
    exact splitK_mem _ _ _ x hx
theorem join_len (M : Nat) : ∀ (xs : List Bs), (∀ x ∈ xs, x.length ≤ M) → (Lib.joinTail [32] xs).length ≤ xs.length * (M + 1)
  | [], _ => by simp [Lib.joinTail]
  | x :: l, h => by
    have ih := join_len M l (fun y hy => h y (List.mem_cons_of_mem _ hy))
    have hx := h x List.mem_cons_self
    have e : Lib.joinTail [32] (x :: l) = [32] ++ x ++ Lib.joinTail [32] l := by simp [Lib.joinTail]
    have e2 : (x :: l).length * (M + 1) = l.length * (M + 1) + (M + 1) := by rw [List.length_cons, Nat.add_mul, Nat.one_mul]
    rw [e, e2, List.length_append, List.length_append]
    show 1 + x.length + _ ≤ _
    omega
/-- Words, joined again. -/
theorem join_row (xs : List Bs) (A : Option Addr) (g o m c : Nat) (W : World) (h : m = 0 ∨ A = some ⟨g, o, none⟩) (hb : Blk W g 9 (vs xs).toArray) (hm : o + m ≤ xs.length) (hc : m ≤ c) (hx : ∀ x ∈ xs, x.length ≤ 1000000) (hl : xs.length ≤ 1000001) : Calls Tryz.prog 10 #[.slice A m c, .string ⟨#[32]⟩] W fun e w' => (∃ s : ByteArray, e = .returned (.string s) ∧ s.size ≤ 140737488355328) ∧ New W w' := by
  by_cases h0 : m = 0
  · subst h0
    refine (Tryz.strings_Join_none A c ⟨#[32]⟩ W).mono ?_
    rintro e w' ⟨rfl, rfl⟩
    exact ⟨⟨_, rfl, by decide⟩, new_refl _⟩
  · obtain rfl := h.resolve_left h0
    obtain ⟨ys, hys⟩ : ∃ ys : List Bs, (xs.drop o).take m = ys := ⟨_, rfl⟩
    have hyl : ys.length = m := by rw [← hys, List.length_take, List.length_drop]; omega
    have hym : ∀ y ∈ ys, y.length ≤ 1000000 := fun y hy => hx y (List.mem_of_mem_drop (List.mem_of_mem_take (by rw [hys]; exact hy)))
    have hJL : (Lib.join ((ys.map fun l => (⟨l.toArray⟩ : ByteArray)).map (·.data.toList)) [32]).length ≤ 140737488355328 := by
      have e : (ys.map fun l => (⟨l.toArray⟩ : ByteArray)).map (·.data.toList) = ys := by rw [List.map_map]; exact List.map_id ys
      rw [e]
      cases ys with
      | nil => simp [Lib.join_nil]
      | cons y r =>
        rw [Lib.join_cons, List.length_append]
        have h1 := hym y List.mem_cons_self
        have h2 := join_len 1000000 r (fun z hz => hym z (List.mem_cons_of_mem _ hz))
        have h3 : r.length ≤ 1000001 := by simp at hyl; omega
        have h4 : r.length * (1000000 + 1) ≤ 1000001 * (1000000 + 1) := Nat.mul_le_mul_right _ h3
        show y.length + (Lib.joinTail [32] r).length ≤ _
        omega
    have hJ := Tryz.strings_Join g o c (ys.map fun l => (⟨l.toArray⟩ : ByteArray)) ⟨#[32]⟩ W (fun j x hj => by
      rw [List.getElem?_map, Option.map_eq_some_iff] at hj
      obtain ⟨y, hy, rfl⟩ := hj
      rw [← hys] at hy
      obtain ⟨hlt, hy2⟩ := List.getElem?_eq_some_iff.1 hy
      rw [List.length_take, List.length_drop] at hlt
      have : y = xs[o + j] := by rw [← hy2]; simp
      rw [this]
      exact (hb.cell (o + j)).trans (vs_at (by omega))) hb.lt (by rw [List.length_map]; omega) (by rw [List.length_map]; omega) hJL
    rw [List.length_map, hyl] at hJ
    refine hJ.mono ?_
    rintro e w' ⟨rfl, hn⟩
    exact ⟨⟨_, rfl, hJL⟩, hn⟩
theorem replace_one (s : ByteArray) (W : World) (h : MaxT W) (hs : s.size ≤ 1000000) : Calls Tryz.prog 11 #[.string s, .string ⟨#[32]⟩, .string ⟨#[]⟩] W fun e w' => (∃ s : ByteArray, e = .returned (.string s)) ∧ New W w' := by
  obtain ⟨m, hm⟩ := h
  refine (Tryz.strings_ReplaceAll s ⟨#[32]⟩ ⟨#[]⟩ m W (by omega) hm (by show 1 ≤ 1; omega) (by show s.size + _ * 0 ≤ _; omega)).mono ?_
  rintro e w' ⟨rfl, hn⟩
  exact ⟨⟨_, rfl⟩, hn⟩
theorem upper_one (s : ByteArray) (W : World) (hs : s.size ≤ 1000000) (ha : ∀ b ∈ s.data.toList, b.toNat < 128) : Calls Tryz.prog 12 #[.string s] W fun e w' => (∃ s : ByteArray, e = .returned (.string s)) ∧ New W w' := by
  refine (Tryz.strings_ToUpper_ascii s W (by omega) (fun j b hb => ha b (List.mem_of_getElem? hb))).mono ?_
  rintro e w' ⟨rfl, hn⟩
  exact ⟨⟨_, rfl⟩, hn⟩
theorem repeat_one (s : ByteArray) (k : Nat) (W : World) (hs : s.size * k ≤ 1000000) (hk : k ≤ 1000000) : Calls Tryz.prog 13 #[.string s, .int .i64 (k : Int)] W fun e w' => (∃ s : ByteArray, e = .returned (.string s) ∧ s.size ≤ 140737488355328) ∧ New W w' := by
  refine (Tryz.strings_Repeat s k W (by omega) (by omega)).mono ?_
  rintro e w' ⟨rfl, hn⟩
  refine ⟨⟨_, rfl, ?_⟩, hn⟩
  have e2 : (Lib.repeatL s.data.toList k).length = k * s.data.toList.length := Lib.repeatL_length _ _
  have e3 : s.data.toList.length = s.size := Array.length_toList
  have e4 : k * s.size = s.size * k := Nat.mul_comm _ _
  show (Lib.repeatL s.data.toList k).length ≤ _
  rw [e2, e3]
  omega
theorem parses_b (T : TypeId) (q : Addr) (b : ByteArray) (w : World) (h : TW w T q) : Calls Tryz.prog 7 #[.string b] w fun e w' => e = .returned (.bool true) ∧ New w w' := by
  have h1 := parses_any T q b.data.toList w h
  have e : (⟨b.data.toList.toArray⟩ : ByteArray) = b := by cases b; simp
  rwa [e] at h1
theorem conv_byte (w : World) (k : Nat) (hk : k < 256) : (convert 37 9 (.slice (some ⟨w.heap.size, 0, none⟩) 1 1)).run Tryz.prog (w.alloc (.cells #[.int .u8 (k : Int)] 5)) = .ok (.string ⟨#[UInt8.ofNat k]⟩) (w.alloc (.cells #[.int .u8 (k : Int)] 5)) := by
  have hb := Blk.new w 5 #[.int .u8 (k : Int)]
  have h := run_convert_bytes_back (P := Tryz.prog) (w.alloc (.cells #[.int .u8 (k : Int)] 5)) 37 9 5 ⟨w.heap.size, 0, none⟩ 1 [UInt8.ofNat k] Tryz.underlying37 Tryz.underlying5 Tryz.underlying9 (fun j hj => by
    have e : j = 0 := by simpa using hj
    subst e
    have hc := hb.cell 0
    have e2 : (UInt8.ofNat k).toNat = k := by simp; omega
    show _ = some (Value.int .u8 ((UInt8.ofNat k).toNat : Int))
    rw [e2]
    exact hc)
  exact h
end Go.Proofs.YtddojdgnakajmaaGreatDoor.txt
