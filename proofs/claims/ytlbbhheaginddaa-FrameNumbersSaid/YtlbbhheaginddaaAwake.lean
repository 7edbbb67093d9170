/-
  The frames' laws: awake.
-/
import Derived.Test.YtlbbhheaginddaaAwF
import Derived.Lib.SlBytesConst
namespace Go.Proofs.Ytlbbhheaginddaa.fr
open Go.RowKit Go.Proofs.Ytlbbhheaginddaa.mem Go.Proofs.Ytlbbhheaginddaa.kit Go.Proofs.Ytlbbhheaginddaa.wire Go.Proofs.Ytlbbhheaginddaa.crc
set_option linter.unusedVariables false

theorem hk1_one {l : List UInt8} (hl : l.length ≤ 1099511627776) : ∀ k (h : k < [l].length), [l][k].length ≤ 1099511627776 := fun k h => by
  have e : k = 0 := by simpa using h
  subst e
  exact hl
theorem vb_tail (P : List UInt8) (a b : UInt8) (j : Nat) (hj : j < P.length) : (vb (P ++ [a]))[j]? = (vb (P ++ [b]))[j]? := by
  rw [vb_append, vb_append, List.getElem?_append_left (by rw [vb_length]; exact hj), List.getElem?_append_left (by rw [vb_length]; exact hj)]
set_option maxRecDepth 100000 in
theorem sum_any (A : Option Addr) (c : Nat) (l : List UInt8) (w : World) (hl : l.length ≤ 1099511627776) (hA : Reads w w.heap.size 1 A l.length (vb l)) :
    Calls Try.prog 26 #[.slice A l.length c] w fun e w' => e = .returned (.int .u32 (crc l : Nat)) ∧ New w w' := by
  have hn := alloc_new w (.cells #[.slice A l.length c] 24)
  have HS := Lib.hid (sumOf_any (some ⟨w.heap.size, 0, none⟩) 1 1 [.slice A l.length c] [l] (w.alloc (.cells #[.slice A l.length c] 24)) rfl (Parts.cons rfl (hA.new hn) (Parts.nil _)) (reads_blk (Blk.new w _ _) rfl) (by simp) (hk1_one hl))
  clear hA
  go_enter Try.func26, Try.ntmps26
  go_wp2_with (go_at_call 31; refine HS.out.mono ?_; rintro e w1 ⟨rfl, rfl⟩)
  go_ret
  exact ⟨by simp, hn⟩

theorem reads_mark (w : World) (cs : Array Value) (fr : Nat × Nat) : Reads (w.alloc (.cells cs 5 fr)) (w.alloc (.cells cs 5 fr)).heap.size 1 (some ⟨w.heap.size, 0, none⟩) cs.size cs.toList :=
  ⟨by simp, fun _ => ⟨_, rfl, by simp, fun j u hu => by
    rw [Addr.add_lit, Nat.zero_add, World.cell?_alloc_mark, ← Array.getElem?_toList]
    exact hu⟩⟩
theorem ex_put (w : World) : Calls Try.prog 5 #[.slice (some ⟨w.heap.size + 1, 0, none⟩) 1 1] ((w.alloc (.cells #[.int .u8 97] 5 (1, 2))).alloc (.cells #[.int .i64 7, .slice (some ⟨w.heap.size, 0, none⟩) 1 1] 31)) fun e w' =>
    ∃ g c, e = .returned (.tuple #[.slice (some ⟨g, 0, none⟩) 10 c, .int .i64 0]) ∧ (10 ≤ c ∧ c ≤ maxLen) ∧ w'.cell? ⟨g, 0, none⟩ = some (.int .u8 7) ∧ w'.cell? ⟨g, 4, none⟩ = some (.int .u8 1) ∧ w'.cell? ⟨g, 9, none⟩ = some (.int .u8 97) ∧ Reads w' w'.heap.size 1 (some ⟨g, 0, none⟩) 10 (vb (fbs [exF])) ∧ New w w' := by
  have hb := (reads_mark w #[.int .u8 97] (1, 2)).new (alloc_new _ (.cells #[.int .i64 7, .slice (some ⟨w.heap.size, 0, none⟩) 1 1] 31))
  have hf := Blk.new (w.alloc (.cells #[.int .u8 97] 5 (1, 2))) 31 #[.int .i64 7, .slice (some ⟨w.heap.size, 0, none⟩) 1 1]
  rw [World.size_alloc] at hf
  have hn : New w ((w.alloc (.cells #[.int .u8 97] 5 (1, 2))).alloc (.cells #[.int .i64 7, .slice (some ⟨w.heap.size, 0, none⟩) 1 1] 31)) := New.then (alloc_new w _) (alloc_new _ _)
  generalize ((w.alloc (.cells #[.int .u8 97] 5 (1, 2))).alloc (.cells #[.int .i64 7, .slice (some ⟨w.heap.size, 0, none⟩) 1 1] 31)) = W at *
  obtain ⟨x0, x1, -, -⟩ := fzf hf
  have hfr : Fi.fr ⟨7, some ⟨w.heap.size, 0, none⟩, 1, [97]⟩ = exF := rfl
  have h := put_ok (some ⟨w.heap.size + 1, 0, none⟩) 1 1 [⟨7, some ⟨w.heap.size, 0, none⟩, 1, [97]⟩] W rfl (fun i h => by
      have : i = 0 := by simpa using h
      subst this
      exact ⟨by simp, by simp, by simp⟩) (by simp) (by rw [List.map_cons, List.map_nil, hfr, ex_len]; omega) (fun i h => by
      have : i = 0 := by simpa using h
      subst this
      exact ⟨w.heap.size + 1, rfl, hf.lt, x0, x1, hb⟩)
  rw [show PutOk W [⟨7, some ⟨w.heap.size, 0, none⟩, 1, [97]⟩] = fun e w' => ∃ A c, e = .returned (.tuple #[.slice A 10 c, .int .i64 0]) ∧ w'.ownsRow W.heap.size 5 1 (.slice A 10 c) 10 (vb (fbs [exF])) ∧ New W w' from by unfold PutOk; simp only [List.map_cons, List.map_nil, hfr, ex_len]] at h
  refine h.mono fun e w' k => ?_
  obtain ⟨A, c, rfl, ho, hn'⟩ := k
  obtain ⟨hc, hr, -⟩ := own_typed ho
  obtain ⟨g, rfl⟩ : ∃ g, A = some ⟨g, 0, none⟩ := by
    rcases ho.2 with ⟨_, e0⟩ | ⟨g, cap, cur, e, _⟩
    · omega
    · simp only [Value.slice.injEq] at e
      exact ⟨g, e.1⟩
  have hcell : ∀ (j : Nat) (u : Value), (vb (fbs [exF]))[j]? = some u → w'.cell? ⟨g, j, none⟩ = some u := fun j u hu => by
    obtain ⟨ad, e, _, hcs⟩ := hr.2 (by omega)
    simp only [Option.some.injEq] at e
    subst e
    have := hcs j u hu
    rwa [Addr.add_lit, Nat.zero_add] at this
  exact ⟨g, c, rfl, hc, hcell 0 _ (by rw [ex_bytes]; rfl), hcell 4 _ (by rw [ex_bytes]; rfl), hcell 9 _ (by rw [ex_bytes]; rfl), hr, New.then hn hn'⟩

theorem ex_scan1 (A : Option Addr) (c : Nat) (w : World) (hc : 10 ≤ c ∧ c ≤ maxLen) (hA : Reads w w.heap.size 1 A 10 (vb (fbs [exF]))) :
    Calls Try.prog 6 #[.slice A 10 c] w fun e w' => ∃ A' c', e = .returned (.tuple #[.slice A' 1 c', .int .i64 10, .bool false]) ∧ New w w' := by
  have h := scan_any A c (fbs [exF]) w (by rw [ex_len]; omega) (by rw [ex_len]; exact hc) (by rw [ex_len]; exact hA)
  rw [ex_len] at h
  refine h.mono fun e w' k => ?_
  obtain ⟨xs, A', c', h1, rfl, h2, h3⟩ := k
  rw [ex_scan.1] at h1 ⊢
  have hl : xs.length = 1 := by have := congrArg List.length h1; simpa using this
  rw [ex_scan.2, st_nil, hl, ex_len]
  exact ⟨A', c', rfl, h3.new⟩
theorem ex_scan2 (A : Option Addr) (c : Nat) (w : World) (hc : 10 ≤ c ∧ c ≤ maxLen) (hA : Reads w w.heap.size 1 A 10 (vb (fbs [exF]))) :
    Calls Try.prog 6 #[.slice A 9 c] w fun e w' => ∃ A' c', e = .returned (.tuple #[.slice A' 0 c', .int .i64 0, .bool false]) ∧ New w w' := by
  have hl9 : ((fbs [exF]).take 9).length = 9 := by rw [List.length_take, ex_len]; rfl
  have h := scan_any A c ((fbs [exF]).take 9) w (by rw [hl9]; omega) (by rw [hl9]; omega) (by rw [hl9]; exact reads_take hA (by omega))
  rw [hl9] at h
  refine h.mono fun e w' k => ?_
  obtain ⟨xs, A', c', h1, rfl, h2, h3⟩ := k
  rw [ex_cut.1] at h1 ⊢
  have hl : xs.length = 0 := by have := congrArg List.length h1; simpa using this
  rw [ex_cut.2.1, ex_cut.2.2, hl, fbs_nil]
  exact ⟨A', c', rfl, h3.new⟩
theorem ex_scan3 (A : Option Addr) (c : Nat) (w : World) (hc : 10 ≤ c ∧ c ≤ maxLen) (hA : Reads w w.heap.size 1 A 10 (vb exW)) :
    Calls Try.prog 6 #[.slice A 10 c] w fun e w' => ∃ A' n' c' u, e = .returned (.tuple #[.slice A' n' c', .int .i64 u, .bool true]) ∧ New w w' := by
  have hl : exW.length = 10 := rfl
  have h := scan_any A c exW w (by rw [hl]; omega) (by rw [hl]; exact hc) (by rw [hl]; exact hA)
  rw [hl] at h
  refine h.mono fun e w' k => ?_
  obtain ⟨xs, A', c', h1, rfl, h2, h3⟩ := k
  rw [ex_worse.2.1, ex_worse.2.2]
  exact ⟨A', xs.length, c', _, rfl, h3.new⟩
theorem ex_row {w0 w : World} {v : Value} (h : Ac w0 v (fbs [exF]) w) : ∃ g c, v = .slice (some ⟨g, 0, none⟩) 10 c ∧ (10 ≤ c ∧ c ≤ maxLen) ∧ w0.heap.size ≤ g ∧ w.cell? ⟨g, 9, none⟩ = some (.int .u8 97) ∧ w.frozen? ⟨g, 9, none⟩ = false ∧ Reads (w.setCell ⟨g, 9, none⟩ (.int .u8 98)) (w.setCell ⟨g, 9, none⟩ (.int .u8 98)).heap.size 1 (some ⟨g, 0, none⟩) 10 (vb exW) := by
  have ho := h.own
  rw [ex_len] at ho
  rcases ho.2 with ⟨_, e0⟩ | ⟨g, cap, cur, rfl, hb, hg, hc1, hc2, hs, ht⟩
  · omega
  have hB : Blk w g 5 cur := hg
  have hcu : ∀ j, j < 10 → cur[j]? = (vb (fbs [exF]))[j]? := fun j hj => by
    rw [← ht, List.getElem?_take_of_lt (by omega), Array.getElem?_toList]
  have hB2 := hB.set_ 9 (.int .u8 98)
  refine ⟨g, cap, rfl, ⟨hc1, hc2⟩, hb, ?_, hB.frozen 9, rfl, fun _ => ⟨_, rfl, hB2.lt, fun j u hu => ?_⟩⟩
  · rw [hB.cell 9, hcu 9 (by omega), ex_bytes]
    rfl
  · rw [Addr.add_lit, Nat.zero_add, hB2.cell j]
    have hj : j < 10 := by
      rcases Nat.lt_or_ge j 10 with h' | h'
      · exact h'
      · rw [List.getElem?_eq_none (by rw [vb_length]; exact h')] at hu; cases hu
    rw [Array.getElem?_setIfInBounds]
    by_cases h9 : 9 = j
    · subst h9
      rw [if_pos rfl, if_pos (by omega), ← hu]
      rfl
    · rw [if_neg h9, hcu j hj, ← hu, ex_bytes]
      exact vb_tail ([7, 0, 0, 0, 1] ++ be4 exX) 97 98 j (show j < 9 by omega)
end Go.Proofs.Ytlbbhheaginddaa.fr
