/-
  The document's Parse: what is there while lines are gone through.
-/
import Derived.Test.YtddojdgnakajmaaGreatDoorPr
import Derived.Test.YtddojdgnakajmaaGreatDoorInI
namespace Go.Proofs.YtddojdgnakajmaaGreatDoor.txt
open Go.RowKit Go.Proofs.YtddojdgnakajmaaGreatDoor.mem Go.Proofs.YtddojdgnakajmaaGreatDoor.kit Go.Proofs.YtddojdgnakajmaaGreatDoor.ins
set_option linter.unusedVariables false
set_option linter.unusedSimpArgs false

/-- Jumps to labels, as the document keeps them. -/
def rjv : List (Int × Nat × Bs) → List Value
  | [] => []
  | j :: l => .int .i64 (j.2.1 : Int) :: .int .i64 j.1 :: .string ⟨j.2.2.toArray⟩ :: rjv l
theorem rjv_length : ∀ (l : List (Int × Nat × Bs)), (rjv l).length = l.length * 3
  | [] => rfl
  | i :: l => by simp only [rjv, List.length_cons, rjv_length l]; omega
theorem rjv_append : ∀ (a b : List (Int × Nat × Bs)), rjv (a ++ b) = rjv a ++ rjv b
  | [], b => rfl
  | i :: a, b => by simp only [List.cons_append, rjv, rjv_append a b]
theorem rjv_at : ∀ (l : List (Int × Nat × Bs)) (k : Nat) (h : k < l.length), (rjv l)[k * 3]? = some (.int .i64 (l[k].2.1 : Int)) ∧ (rjv l)[k * 3 + 1]? = some (.int .i64 l[k].1) ∧ (rjv l)[k * 3 + 2]? = some (.string ⟨l[k].2.2.toArray⟩)
  | [], k, h => by simp at h
  | p :: l, 0, h => ⟨rfl, rfl, rfl⟩
  | p :: l, k + 1, h => by
    have ih := rjv_at l k (by simpa using h)
    have e1 : (k + 1) * 3 = k * 3 + 1 + 1 + 1 := by omega
    have e2 : (k + 1) * 3 + 1 = k * 3 + 1 + 1 + 1 + 1 := by omega
    have e3 : (k + 1) * 3 + 2 = k * 3 + 2 + 1 + 1 + 1 := by omega
    rw [e3, e2, e1]
    exact ih
theorem rjump_info : (Tryz.prog.info? 129).map (fun i => (i.zero, i.size, i.bytes)) = some (some (.agg #[.int .i64 0, .int .i64 0, .string ⟨#[]⟩]), 3, 32) := by kernel_rfl
theorem rmark_info : (Tryz.prog.info? 125).map (fun i => (i.zero, i.size, i.bytes)) = some (some (.agg #[.string ⟨#[]⟩, .int .i64 0]), 2, 24) := by kernel_rfl

/-- While the document's Parse goes on. -/
structure QS (w0 : World) (s : FM) (vo vj vm vl : Value) (L : List Bs) (w : World) : Prop where
  new : New w0 w
  lo : w.ownsRow w0.heap.size 41 8 vo s.is.length (vi s.is)
  jo : w.ownsRow w0.heap.size 129 3 vj s.js.length (rjv s.js)
  mo : w.ownsRow w0.heap.size 125 2 vm s.ls.length (mv s.ls)
  li : w.ownsRow w0.heap.size 9 1 vl L.length (vs L)
  r : Blk w w0.heap.size 26 #[.int .i64 0, .int .i64 0]
  p0 : PowT w0
section
variable {w0 w w' w9 : World} {s : FM} {vo vj vm vl v9 : Value} {L : List Bs}
theorem QS.pow (h : QS w0 s vo vj vm vl L w) : PowT w := h.p0.new h.new
theorem QS.keep (h : QS w0 s vo vj vm vl L w) (hn : New w w') : QS w0 s vo vj vm vl L w' :=
  ⟨New.then h.new hn, own_new h.lo hn, own_new h.jo hn, own_new h.mo hn, own_new h.li hn, h.r.below hn h.r.lt, h.p0⟩
/-- Behind a change in one block of another kind. -/
theorem QS.far (h : QS w0 s vo vj vm vl L w) {g : Nat} {cs : Array Value} (hb : Blk w g 122 cs) (hg : w0.heap.size ≤ g) (hc : Ch (fun j => j = g) w w') : QS w0 s vo vj vm vl L w' := by
  have hne : ∀ {n sz : Nat} {e : TypeId} {v : Value} {xs : List Value}, w.ownsRow w0.heap.size e sz v n xs → e ≠ 122 → w'.ownsRow w0.heap.size e sz v n xs := fun ho he => own_ch ho hc (fun j hj e => by
    have e' : j = g := e
    subst e'
    exact own_blk_not ho hb he hj.symm)
  exact ⟨((Ch.of_new (S := fun j => j = g) h.new).then hc (fun _ _ e => e)).below (Nat.le_refl _) (fun j hj e => by have e' : j = g := e; omega), hne h.lo (by decide), hne h.jo (by decide), hne h.mo (by decide), hne h.li (by decide), h.r.ch hc (fun e => by have e' : w0.heap.size = g := e; exact h.r.ne_ (by rw [e']; exact hb) (by decide) rfl), h.p0⟩
theorem QS.addi (h : QS w0 s vo vj vm vl L w) (i : In) (hown : w9.ownsRow w0.heap.size 41 8 v9 (s.is.length + 1) (vi s.is ++ vi [i])) (hg : w.grownBy w9 vo.ownBlock) : QS w0 ⟨s.is ++ [i], s.ls, s.js⟩ v9 vj vm vl L w9 := by
  have hc := Ch.of_grown hg
  refine ⟨h.new.grown hg h.new.size (fun j hj => (h.lo.lt j hj).1), ?_, own_ch h.jo hc (own_own_ne h.jo h.lo (by decide)), own_ch h.mo hc (own_own_ne h.mo h.lo (by decide)), own_ch h.li hc (own_own_ne h.li h.lo (by decide)), h.r.ch hc (own_blk_not h.lo h.r (by decide)), h.p0⟩
  show World.ownsRow _ _ _ _ _ (s.is ++ [i]).length (vi (s.is ++ [i]))
  rw [vi_append, List.length_append]
  exact hown
theorem QS.addj (h : QS w0 s vo vj vm vl L w) (j : Int × Nat × Bs) (hown : w9.ownsRow w0.heap.size 129 3 v9 (s.js.length + 1) (rjv s.js ++ [.int .i64 (j.2.1 : Int), .int .i64 j.1, .string ⟨j.2.2.toArray⟩])) (hg : w.grownBy w9 vj.ownBlock) : QS w0 ⟨s.is, s.ls, s.js ++ [j]⟩ vo v9 vm vl L w9 := by
  have hc := Ch.of_grown hg
  refine ⟨h.new.grown hg h.new.size (fun j hj => (h.jo.lt j hj).1), own_ch h.lo hc (own_own_ne h.lo h.jo (by decide)), ?_, own_ch h.mo hc (own_own_ne h.mo h.jo (by decide)), own_ch h.li hc (own_own_ne h.li h.jo (by decide)), h.r.ch hc (own_blk_not h.jo h.r (by decide)), h.p0⟩
  show World.ownsRow _ _ _ _ _ (s.js ++ [j]).length (rjv (s.js ++ [j]))
  rw [rjv_append, List.length_append]
  exact hown
theorem QS.addm (h : QS w0 s vo vj vm vl L w) (p : Bs × Nat) (hown : w9.ownsRow w0.heap.size 125 2 v9 (s.ls.length + 1) (mv s.ls ++ [sv p.1, .int .i64 (p.2 : Int)])) (hg : w.grownBy w9 vm.ownBlock) : QS w0 ⟨s.is, s.ls ++ [p], s.js⟩ vo vj v9 vl L w9 := by
  have hc := Ch.of_grown hg
  refine ⟨h.new.grown hg h.new.size (fun j hj => (h.mo.lt j hj).1), own_ch h.lo hc (own_own_ne h.lo h.mo (by decide)), own_ch h.jo hc (own_own_ne h.jo h.mo (by decide)), ?_, own_ch h.li hc (own_own_ne h.li h.mo (by decide)), h.r.ch hc (own_blk_not h.mo h.r (by decide)), h.p0⟩
  show World.ownsRow _ _ _ _ _ (s.ls ++ [p]).length (mv (s.ls ++ [p]))
  rw [mv_append, List.length_append]
  exact hown
/-- A line of the text. -/
theorem QS.line (h : QS w0 s vo vj vm vl L w) {k : Nat} (hk : k < L.length) : ∃ b c, vl = .slice (some ⟨b, 0, none⟩) L.length c ∧ w.cell? ⟨b, k, none⟩ = some (sv L[k]) := by
  obtain ⟨b, c, e⟩ := own_some h.li (by omega)
  subst e
  refine ⟨b, c, rfl, ?_⟩
  have := World.ownsRow.cellAt h.li (j := k) (by omega)
  rw [vs_get L k hk] at this
  exact this
end
/-- What is kept of the lines that were gone through. -/
theorem parseL_cons {k : Nat} {L : List Bs} {s : FM} (hk : k < L.length) : parseL k (L.drop k) s = if (addM ((k : Int) + 1) (lineB L[k]) s).1 = 0 then parseL (k + 1) (L.drop (k + 1)) (addM ((k : Int) + 1) (lineB L[k]) s).2 else .inl ((addM ((k : Int) + 1) (lineB L[k]) s).1, (k : Int) + 1) := by
  rw [List.drop_eq_getElem_cons hk]
  rfl
theorem tk_len : ∀ (f : Nat) (l : Bs) (ts : List Bs), tk f l = some ts → ts.length ≤ l.length ∧ ∀ t ∈ ts, t.length ≤ l.length
  | 0, l, ts, h => by
    cases h
    exact ⟨Nat.zero_le _, fun t ht => by cases ht⟩
  | f + 1, l, ts, h => by
    unfold tk at h
    have hd := drop_len blk l
    cases hq : l.dropWhile blk with
    | nil =>
      rw [hq] at h
      cases h
      exact ⟨Nat.zero_le _, fun t ht => by cases ht⟩
    | cons c r =>
      rw [hq] at h hd
      simp only at h
      split at h
      · rename_i hw
        have h2 := drop_lt (r := r) wby hw
        cases ht : tk f ((c :: r).dropWhile wby) with
        | none => rw [ht] at h; cases h
        | some us =>
          rw [ht] at h
          cases h
          obtain ⟨i1, i2⟩ := tk_len f _ us ht
          refine ⟨by simp only [List.length_cons] at *; omega, fun t hm => ?_⟩
          rcases List.mem_cons.1 hm with rfl | hm
          · have := (List.takeWhile_sublist wby (l := c :: r)).length_le
            omega
          · have := i2 t hm
            omega
      · split at h
        · cases ht : tk f r with
          | none => rw [ht] at h; cases h
          | some us =>
            rw [ht] at h
            cases h
            obtain ⟨i1, i2⟩ := tk_len f _ us ht
            simp only [List.length_cons] at hd
            refine ⟨by simp only [List.length_cons]; omega, fun t hm => ?_⟩
            rcases List.mem_cons.1 hm with rfl | hm
            · simp only [List.length_cons, List.length_nil]; omega
            · have := i2 t hm
              omega
        · cases h
theorem toks_len {l : Bs} {ts : List Bs} (h : toks l = some ts) : ts.length ≤ l.length ∧ ∀ t ∈ ts, t.length ≤ l.length := by
  have ha : (ahead l).length ≤ l.length := (List.takeWhile_sublist _).length_le
  obtain ⟨h1, h2⟩ := tk_len _ _ _ h
  exact ⟨Nat.le_trans h1 ha, fun t ht => Nat.le_trans (h2 t ht) ha⟩
theorem labI_none {k : Bs} {l : List (Bs × Nat)} (h : lab k l = none) : labI k l = -1 := by unfold labI; rw [h]
theorem labI_some {k : Bs} {l : List (Bs × Nat)} {m : Nat} (h : lab k l = some m) : labI k l = (m : Int) := by unfold labI; rw [h]
theorem sent_labl {t : Bs} (h : isLab t = true) : sent [t, [58]] = some (.lab t) := by simp [sent, hd, h]
theorem sl0_start {ts : List Bs} {v : Value} {base : Nat} {w : World} (ho : w.ownsRow base 9 1 v ts.length (vs ts)) (h1 : ts.length ≤ 1000000000) (h2 : ∀ t ∈ ts, t.length ≤ 1000000000) (hP : PowT w) :
    SL0 w.heap.size ⟨ts, 0, false, zI⟩ (w.alloc (.cells #[v, .int .i64 0, .bool false] 122)) := by
  have n1 := new1 w (.cells #[v, .int .i64 0, .bool false] 122)
  exact ⟨⟨v, base, Blk.new w _ _, own_new ho n1⟩, h1, h2, hP.new n1⟩
theorem reads_m (w : World) (a : Bs) (n : Int) : Reads (w.alloc (.cells #[sv a, .int .i64 n] 125)) (w.heap.size + 1) 2 (some ⟨w.heap.size, 0, none⟩) 1 [sv a, .int .i64 n] :=
  ⟨rfl, fun _ => ⟨_, rfl, by simp, fun j u hu => by
    match j, hu with
    | 0, hu => simp at hu; subst hu; simp [Addr.add, go_sem]
    | 1, hu => simp at hu; subst hu; simp [Addr.add, go_sem]⟩⟩
theorem reads_rj (w : World) (a b : Int) (t : Bs) : Reads (w.alloc (.cells #[.int .i64 a, .int .i64 b, .string ⟨t.toArray⟩] 129)) (w.heap.size + 1) 3 (some ⟨w.heap.size, 0, none⟩) 1 [.int .i64 a, .int .i64 b, .string ⟨t.toArray⟩] :=
  ⟨rfl, fun _ => ⟨_, rfl, by simp, fun j u hu => by
    match j, hu with
    | 0, hu => simp at hu; subst hu; simp [Addr.add, go_sem]
    | 1, hu => simp at hu; subst hu; simp [Addr.add, go_sem]
    | 2, hu => simp at hu; subst hu; simp [Addr.add, go_sem]⟩⟩
end Go.Proofs.YtddojdgnakajmaaGreatDoor.txt
