/-
  Text's mathematics: two texts without labels, one behind the other.
-/
import Derived.Test.YtddojdgnakajmaaGreatDoorTB
namespace Go.Proofs.YtddojdgnakajmaaGreatDoor.txt
open Go.Proofs.YtddojdgnakajmaaGreatDoor.ins
set_option linter.unusedVariables false
set_option linter.unusedSimpArgs false

/-! ### a blank behind -/
theorem blk_wby {c : UInt8} (h : blk c = true) : wby c = false := by
  cases hw : wby c with
  | false => rfl
  | true => rw [wby_blk hw] at h; cases h
theorem take_end {c : UInt8} (p : UInt8 → Bool) (hc : p c = false) : ∀ (l : Bs), (l ++ [c]).takeWhile p = l.takeWhile p
  | [] => by simp [List.takeWhile_cons, hc]
  | d :: l => by
    rw [List.cons_append, List.takeWhile_cons, List.takeWhile_cons, take_end p hc l]
theorem drop_end {c : UInt8} (p : UInt8 → Bool) (hc : p c = false) : ∀ (l : Bs), (l ++ [c]).dropWhile p = l.dropWhile p ++ [c]
  | [] => by simp [List.dropWhile_cons, hc]
  | d :: l => by
    rw [List.cons_append, List.dropWhile_cons, List.dropWhile_cons, drop_end p hc l]
    split <;> rfl
theorem drop_blank {c : UInt8} (hc : blk c = true) : ∀ (l : Bs), (l ++ [c]).dropWhile blk = if l.dropWhile blk = [] then [] else l.dropWhile blk ++ [c]
  | [] => by simp [List.dropWhile_cons, hc]
  | d :: l => by
    rw [List.cons_append, List.dropWhile_cons, List.dropWhile_cons, drop_blank hc l]
    split
    · rfl
    · rw [if_neg (by simp)]; rfl
theorem tks_endb {c : UInt8} (hc : blk c = true) : ∀ (n : Nat) (l : Bs), l.length < n → tks (l ++ [c]) = tks l
  | 0, l, h => by omega
  | n + 1, l, h => by
    have hd := drop_blank hc l
    have hle := drop_len blk l
    cases e : l.dropWhile blk with
    | nil =>
      rw [e, if_pos rfl] at hd
      rw [tks_nil hd, tks_nil e]
    | cons d r =>
      rw [e] at hd hle
      rw [if_neg (by simp), List.cons_append] at hd
      simp only [List.length_cons] at hle
      cases hw : wby d with
      | true =>
        have h2 := drop_lt (r := r) wby hw
        rw [tks_word hd hw, tks_word e hw, ← List.cons_append, take_end wby (blk_wby hc), drop_end wby (blk_wby hc), tks_endb hc n _ (by simp only [List.length_cons] at h2; omega)]
      | false =>
        cases hs : sgn d with
        | true => rw [tks_sign hd hw hs, tks_sign e hw hs, tks_endb hc n r (by omega)]
        | false => rw [tks_bad hd hw hs, tks_bad e hw hs]
theorem ahead_cut {l : Bs} (r : Bs) (h : (35 : UInt8) ∈ l) : ahead (l ++ r) = ahead l := by
  induction l with
  | nil => simp at h
  | cons c l ih =>
    unfold ahead at *
    rw [List.cons_append, List.takeWhile_cons, List.takeWhile_cons]
    by_cases e : c = 35
    · subst e; simp
    · rw [ih ((List.mem_cons.1 h).resolve_left (fun h => e h.symm))]
theorem ahead_whole {l : Bs} (h : (35 : UInt8) ∉ l) (r : Bs) : ahead (l ++ r) = l ++ ahead r := by
  induction l with
  | nil => rfl
  | cons c l ih =>
    have h1 : c ≠ 35 := fun e => h (by rw [e]; exact List.mem_cons_self ..)
    have h2 : (35 : UInt8) ∉ l := fun e => h (List.mem_cons_of_mem _ e)
    have := ih h2
    unfold ahead at *
    rw [List.cons_append, List.takeWhile_cons, if_pos (by simpa using h1), this, List.cons_append]
theorem ahead_self {l : Bs} (h : (35 : UInt8) ∉ l) : ahead l = l := by
  have := ahead_whole h []
  simpa [ahead] using this
theorem toks_note (l : Bs) : toks (l ++ [32, 35, 32, 120, 58, 32, 91]) = toks l := by
  rw [toks_eq, toks_eq]
  by_cases h : (35 : UInt8) ∈ l
  · rw [ahead_cut _ h]
  · rw [ahead_whole h, ahead_self h]
    exact tks_endb rfl _ l (Nat.lt_succ_self _)
theorem toks_back (l : Bs) : toks (l ++ [13]) = toks l := by
  rw [toks_eq, toks_eq]
  by_cases h : (35 : UInt8) ∈ l
  · rw [ahead_cut _ h]
  · rw [ahead_whole h, ahead_self h]
    exact tks_endb rfl _ l (Nat.lt_succ_self _)
theorem toks_tab (l : Bs) : toks (9 :: l) = toks l := by
  rw [toks_eq, toks_eq]
  exact tks_blank rfl

/-! ### what lines without labels say -/
def ofLine (l : Bs) : Option (List In) := match lineB l with
  | some .none => some []
  | some (.ins i []) => some [i]
  | _ => none
def insL : List Bs → Option (List In)
  | [] => some []
  | l :: L => (ofLine l).bind fun x => (insL L).map (x ++ ·)
theorem ofLine_toks {a b : Bs} (h : toks a = toks b) : ofLine a = ofLine b := by unfold ofLine lineB; rw [h]
theorem insL_none {l : Bs} (L : List Bs) (h : ofLine l = some []) : insL (l :: L) = insL L := by
  simp only [insL, h]
  cases insL L <;> rfl
theorem insL_app : ∀ (A B : List Bs), insL (A ++ B) = (insL A).bind fun x => (insL B).map (x ++ ·)
  | [], B => by
    simp only [List.nil_append, insL]
    cases insL B <;> rfl
  | l :: A, B => by
    simp only [List.cons_append, insL]
    rw [insL_app A B]
    cases ofLine l with
    | none => rfl
    | some x =>
      cases insL A with
      | none => rfl
      | some y =>
        cases insL B with
        | none => rfl
        | some z => simp

/-! ### a colon makes a label -/
theorem tks_mem : ∀ (n : Nat) (l : Bs) (ts : List Bs), l.length < n → tks l = some ts → ∀ t ∈ ts, ∀ c ∈ t, c ∈ l
  | 0, l, ts, h, _ => by omega
  | n + 1, l, ts, h, ht => by
    have hsub : ∀ c, c ∈ l.dropWhile blk → c ∈ l := fun c hc => (List.dropWhile_sublist blk).subset hc
    have hle := drop_len blk l
    cases e : l.dropWhile blk with
    | nil =>
      rw [tks_nil e] at ht
      cases ht
      intro t hm
      cases hm
    | cons d r =>
      rw [e] at hsub hle
      simp only [List.length_cons] at hle
      cases hw : wby d with
      | true =>
        have h2 := drop_lt (r := r) wby hw
        rw [tks_word e hw] at ht
        obtain ⟨ts', h3, rfl⟩ := Option.map_eq_some_iff.1 ht
        intro t hm c hc
        rcases List.mem_cons.1 hm with rfl | hm
        · exact hsub c ((List.takeWhile_sublist wby).subset hc)
        · exact hsub c ((List.dropWhile_sublist wby).subset (tks_mem n _ ts' (by simp only [List.length_cons] at h2; omega) h3 t hm c hc))
      | false =>
        cases hs : sgn d with
        | true =>
          rw [tks_sign e hw hs] at ht
          obtain ⟨ts', h3, rfl⟩ := Option.map_eq_some_iff.1 ht
          intro t hm c hc
          rcases List.mem_cons.1 hm with rfl | hm
          · rw [List.mem_singleton.1 hc]
            exact hsub d (List.mem_cons_self ..)
          · exact hsub c (List.mem_cons_of_mem _ (tks_mem n r ts' (by omega) h3 t hm c hc))
        | false =>
          rw [tks_bad e hw hs] at ht
          cases ht
theorem lab_colon {l x : Bs} (h : lineB l = some (.lab x)) : (58 : UInt8) ∈ l := by
  unfold lineB at h
  obtain ⟨ts, h1, h2⟩ := Option.bind_eq_some_iff.1 h
  have hm := tks_mem _ _ ts (Nat.lt_succ_self _) (show tks (ahead l) = some ts from h1)
  have ha : ∀ c, c ∈ ahead l → c ∈ l := fun c hc => (List.takeWhile_sublist _).subset hc
  cases ts with
  | nil => simp [sent] at h2
  | cons w r =>
    simp only [sent] at h2
    by_cases e : hd r = [58]
    · cases r with
      | nil => simp [hd] at e
      | cons y r =>
        have e2 : y = [58] := by simpa [hd] using e
        exact ha _ (hm y (by simp) 58 (by rw [e2]; simp))
    · rw [if_neg e] at h2
      obtain ⟨p, h3, h4⟩ := Option.bind_eq_some_iff.1 h2
      split at h4
      · cases h4
      · cases h4

/-! ### the lines of a text -/
theorem split_nl (l : Bs) : (10 : UInt8) ∉ l ∨ ∃ a b, (10 : UInt8) ∉ a ∧ l = a ++ 10 :: b := by
  induction l with
  | nil => left; simp
  | cons c l ih =>
    by_cases e : c = 10
    · right; exact ⟨[], l, by simp, by rw [e]; rfl⟩
    · rcases ih with h | ⟨a, b, h1, rfl⟩
      · left
        intro hm
        rcases List.mem_cons.1 hm with h2 | h2
        · exact e h2.symm
        · exact h h2
      · right
        refine ⟨c :: a, b, ?_, rfl⟩
        intro hm
        rcases List.mem_cons.1 hm with h2 | h2
        · exact e h2.symm
        · exact h1 h2
theorem lines_mem : ∀ (n : Nat) (l : Bs), l.length < n → ∀ x ∈ linesB l, ∀ c ∈ x, c ∈ l
  | 0, l, h => by omega
  | n + 1, l, h => by
    rcases split_nl l with h1 | ⟨a, b, h1, rfl⟩
    · rw [lines_no h1]
      intro x hx c hc
      rw [List.mem_singleton.1 hx] at hc
      exact hc
    · rw [lines_hit h1]
      intro x hx c hc
      rcases List.mem_cons.1 hx with rfl | hx
      · exact List.mem_append_left _ hc
      · exact List.mem_append_right _ (List.mem_cons_of_mem _ (lines_mem n b (by simp at h; omega) x hx c hc))

/-! ### parsed without labels -/
theorem parse_plain : ∀ (L : List Bs) (n : Nat) (is : List In) (js : List (Int × Nat × Bs)) (s : FM), (∀ l ∈ L, (58 : UInt8) ∉ l) → parseL n L ⟨is, [], js⟩ = .inr s →
    s.ls = [] ∧ (∃ r, s.js = js ++ r) ∧ (s.js = [] → ∃ xs, insL L = some xs ∧ s.is = is ++ xs)
  | [], n, is, js, s, _, h => by
    cases h
    exact ⟨rfl, ⟨[], by simp⟩, fun _ => ⟨[], rfl, by simp⟩⟩
  | l :: L, n, is, js, s, hc, h => by
    have hc2 : ∀ l ∈ L, (58 : UInt8) ∉ l := fun x hx => hc x (List.mem_cons_of_mem _ hx)
    unfold parseL at h
    cases e : lineB l with
    | none =>
      rw [e] at h
      simp [addM] at h
    | some d =>
      rw [e] at h
      cases d with
      | none =>
        simp only [addM, if_true] at h
        obtain ⟨h1, h2, h3⟩ := parse_plain L (n + 1) is js s hc2 h
        refine ⟨h1, h2, fun h4 => ?_⟩
        have ho : ofLine l = some [] := by unfold ofLine; rw [e]
        rw [insL_none L ho]
        exact h3 h4
      | lab x => exact absurd (lab_colon e) (hc l (List.mem_cons_self ..))
      | ins i t =>
        simp only [addM] at h
        by_cases h0 : is.length = 4096
        · rw [if_pos h0] at h
          simp at h
        · rw [if_neg h0] at h
          simp only [if_true] at h
          obtain ⟨h1, ⟨r, h2⟩, h3⟩ := parse_plain L (n + 1) _ _ s hc2 h
          by_cases ht : t = []
          · subst ht
            simp only [if_true] at h2
            refine ⟨h1, ⟨r, h2⟩, fun h4 => ?_⟩
            obtain ⟨xs, h5, h6⟩ := h3 h4
            have ho : ofLine l = some [i] := by unfold ofLine; rw [e]
            refine ⟨i :: xs, ?_, ?_⟩
            · simp [insL, ho, h5]
            · rw [h6]; simp
          · rw [if_neg ht] at h2
            refine ⟨h1, ⟨[((n : Int) + 1, is.length, t)] ++ r, by rw [h2]; simp⟩, fun h4 => ?_⟩
            rw [h4] at h2
            simp at h2
theorem ins_parsed : ∀ (L : List Bs) (n : Nat) (is xs : List In), insL L = some xs → is.length + xs.length ≤ 4096 → parseL n L ⟨is, [], []⟩ = .inr ⟨is ++ xs, [], []⟩
  | [], n, is, xs, h, _ => by
    cases h
    simp [parseL]
  | l :: L, n, is, xs, h, hl => by
    simp only [insL] at h
    obtain ⟨x, h1, h2⟩ := Option.bind_eq_some_iff.1 h
    obtain ⟨y, h3, rfl⟩ := Option.map_eq_some_iff.1 h2
    simp only [List.length_append] at hl
    unfold parseL
    unfold ofLine at h1
    split at h1
    · rename_i e
      cases h1
      rw [e]
      simp only [addM, if_true, List.nil_append]
      exact ins_parsed L (n + 1) is y h3 (by simpa using hl)
    · rename_i i e
      cases h1
      rw [e]
      simp only [List.length_cons, List.length_nil] at hl
      have hne : ¬ is.length = 4096 := by omega
      simp only [addM, if_neg hne, if_true]
      rw [ins_parsed L (n + 1) (is ++ [i]) y h3 (by simp; omega)]
      simp
    · cases h1
theorem plain_of_parse {a : Bs} {xs : List In} (h : parseM a = ((0, 0), xs)) (hc : (58 : UInt8) ∉ a) : insL (linesB a) = some xs := by
  unfold parseM at h
  split at h
  · cases h
  · have hL : ∀ l ∈ linesB a, (58 : UInt8) ∉ l := fun l hl hm => hc (lines_mem _ a (Nat.lt_succ_self _) l hl 58 hm)
    cases hp : parseL 0 (linesB a) ⟨[], [], []⟩ with
    | inl f =>
      rw [hp] at h
      have h0 : PInv 0 ⟨[], [], []⟩ := ⟨by simp, rfl, fun j hj => by simp at hj, fun j hj => by simp at hj⟩
      have h1 := (parseL_inv (linesB a) 0 _ h0).1 f hp
      simp only [Prod.mk.injEq] at h
      rw [h.1] at h1
      exact absurd rfl h1.1
    | inr s =>
      rw [hp] at h
      obtain ⟨h1, -, h3⟩ := parse_plain (linesB a) 0 [] [] s hL hp
      simp only at h
      rw [h1] at h
      cases hj : s.js with
      | nil =>
        rw [hj] at h
        simp only [joinM, if_true, Prod.mk.injEq, true_and] at h
        obtain ⟨ys, h4, h5⟩ := h3 hj
        rw [h4]
        rw [h5] at h
        simpa using h
      | cons j r =>
        rw [hj] at h
        have e : joinM [] s.is (j :: r) = (121, j.1, setO s.is j.2.1 (((lab j.2.2 []).getD 0 : Nat) - ((j.2.1 : Int) + 1))) := by
          rw [joinM, if_neg (by simp [lab])]
        rw [e] at h
        simp at h
theorem parse_of_plain {a : Bs} {xs : List In} (hl : a.length ≤ 262144) (h : insL (linesB a) = some xs) (hx : xs.length ≤ 4096) : parseM a = ((0, 0), xs) := by
  unfold parseM
  rw [if_neg (by omega), ins_parsed _ 0 [] xs h (by simpa using hx)]
  rfl

/-! ### newlines replaced -/
abbrev nlB : Bs := [32, 35, 32, 120, 58, 32, 91, 10, 32, 10]
def rep (a : Bs) : Bs := Lib.replaceAll a [10] nlB
theorem rep_eq (a : Bs) : rep a = Lib.replaceK [10] nlB (Lib.count a [10]) a := by
  unfold rep Lib.replaceAll Lib.replace
  rw [if_neg (by decide)]
  unfold Lib.replaceNum
  rw [if_pos (.inl (by decide))]
theorem rep_no {a : Bs} (h : (10 : UInt8) ∉ a) : rep a = a := by
  rw [rep_eq, Lib.count_miss (index_no h)]
  rfl
theorem drop_past (a b : Bs) : (a ++ 10 :: b).drop (a.length + ([10] : Bs).length) = b := by
  have e : a ++ 10 :: b = (a ++ [10]) ++ b := by simp
  rw [e, List.drop_append_of_le_length (by simp)]
  simp
theorem rep_hit {a b : Bs} (h : (10 : UInt8) ∉ a) : rep (a ++ 10 :: b) = a ++ nlB ++ rep b := by
  have hi : Lib.index (a ++ 10 :: b) [10] = (a.length : Nat) := index_at h
  rw [rep_eq, rep_eq, Lib.count_hit (by decide) hi, drop_past, Nat.add_comm 1, Lib.replaceK_hit _ _ _ _ _ hi, drop_past]
  simp
theorem rep_len : ∀ (n : Nat) (a : Bs), a.length < n → (rep a).length ≤ 10 * a.length
  | 0, a, h => by omega
  | n + 1, a, h => by
    rcases split_nl a with h1 | ⟨x, y, h1, rfl⟩
    · rw [rep_no h1]; omega
    · rw [rep_hit h1]
      have := rep_len n y (by simp at h; omega)
      simp only [List.length_append, List.length_cons, List.length_nil]
      omega
theorem nl_app {p a : Bs} (hp : (10 : UInt8) ∉ p) (ha : (10 : UInt8) ∉ a) : (10 : UInt8) ∉ p ++ a := by
  intro h
  rcases List.mem_append.1 h with h | h
  · exact hp h
  · exact ha h
/-- The first text, its newlines replaced, and what stands behind it. -/
theorem ins_rep : ∀ (n : Nat) (a p Z : Bs), a.length < n → (10 : UInt8) ∉ p → (∀ l, toks (p ++ l) = toks l) →
    insL (linesB (p ++ (rep a ++ 13 :: 10 :: Z))) = (insL (linesB a)).bind fun x => (insL (linesB Z)).map (x ++ ·)
  | 0, a, p, Z, h, _, _ => by omega
  | n + 1, a, p, Z, h, hp, ht => by
    rcases split_nl a with h1 | ⟨x, y, h1, rfl⟩
    · have e : p ++ (rep a ++ 13 :: 10 :: Z) = (p ++ (a ++ [13])) ++ 10 :: Z := by rw [rep_no h1]; simp
      rw [e, lines_hit (nl_app hp (nl_app h1 (by simp))), lines_no h1]
      have ho : ofLine (p ++ (a ++ [13])) = ofLine a := ofLine_toks ((ht _).trans (toks_back a))
      simp only [insL, ho]
      cases ofLine a with
      | none => rfl
      | some u => simp
    · have e : p ++ (rep (x ++ 10 :: y) ++ 13 :: 10 :: Z) = (p ++ (x ++ [32, 35, 32, 120, 58, 32, 91])) ++ 10 :: ([32] ++ 10 :: ([] ++ (rep y ++ 13 :: 10 :: Z))) := by rw [rep_hit h1]; simp
      rw [e, lines_hit (nl_app hp (nl_app h1 (by simp))), lines_hit (by simp), lines_hit h1]
      have ho : ofLine (p ++ (x ++ [32, 35, 32, 120, 58, 32, 91])) = ofLine x := ofLine_toks ((ht _).trans (toks_note x))
      have ih := ins_rep n y [] Z (by simp at h; omega) (by simp) (fun l => rfl)
      have h32 : ofLine [32] = some [] := by kernel_rfl
      have e2 : insL ([32] :: linesB ([] ++ (rep y ++ 13 :: 10 :: Z))) = insL (linesB ([] ++ (rep y ++ 13 :: 10 :: Z))) := insL_none _ h32
      simp only [insL, ho] at e2 ⊢
      rw [e2, ih]
      cases ofLine x with
      | none => rfl
      | some u =>
        cases insL (linesB y) with
        | none => rfl
        | some v =>
          cases insL (linesB Z) with
          | none => rfl
          | some z => simp
/-- Text and a last line of a comment. -/
theorem ins_last : ∀ (n : Nat) (b : Bs), b.length < n → insL (linesB (b ++ [10, 35])) = insL (linesB b)
  | 0, b, h => by omega
  | n + 1, b, h => by
    have h35 : ofLine [35] = some [] := by kernel_rfl
    rcases split_nl b with h1 | ⟨x, y, h1, rfl⟩
    · rw [show b ++ [10, 35] = b ++ 10 :: [35] from rfl, lines_hit h1, lines_no (a := [35]) (by simp), lines_no h1]
      simp only [insL, h35]
      cases ofLine b <;> rfl
    · rw [show x ++ 10 :: y ++ [10, 35] = x ++ 10 :: (y ++ [10, 35]) by simp, lines_hit h1, lines_hit h1]
      simp only [insL]
      rw [ins_last n y (by simp at h; omega)]
/-- The whole text. -/
def rowsB (a b : Bs) : Bs := [35, 32, 102, 105, 114, 115, 116, 10, 9] ++ rep a ++ [13, 10, 10] ++ b ++ [10, 35]
theorem parse_rows {a b : Bs} {xs ys : List In} (ha : parseM a = ((0, 0), xs)) (hb : parseM b = ((0, 0), ys)) (ca : (58 : UInt8) ∉ a) (cb : (58 : UInt8) ∉ b) (hl : a.length + b.length ≤ 20000) (hx : xs.length + ys.length ≤ 4096) :
    parseM (rowsB a b) = ((0, 0), xs ++ ys) := by
  have h1 := plain_of_parse ha ca
  have h2 := plain_of_parse hb cb
  have hr := rep_len _ a (Nat.lt_succ_self _)
  refine parse_of_plain ?_ ?_ (by simpa using hx)
  · unfold rowsB
    simp only [List.length_append, List.length_cons, List.length_nil]
    omega
  · have e : rowsB a b = [35, 32, 102, 105, 114, 115, 116] ++ 10 :: ([9] ++ (rep a ++ 13 :: 10 :: ([] ++ 10 :: (b ++ [10, 35])))) := by unfold rowsB; simp
    have hf : ofLine [35, 32, 102, 105, 114, 115, 116] = some [] := by kernel_rfl
    have h0 : ofLine [] = some [] := by kernel_rfl
    rw [e, lines_hit (by decide), insL_none _ hf, ins_rep _ a [9] _ (Nat.lt_succ_self _) (by simp) toks_tab, h1, lines_hit (by simp), insL_none _ h0, ins_last _ b (Nat.lt_succ_self _), h2]
    rfl
end Go.Proofs.YtddojdgnakajmaaGreatDoor.txt
