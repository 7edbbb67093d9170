/-
  Lists of bytes that lie apart: what is held of them.
-/
import Derived.Test.YtpkiopijfhkagaaGreatDoorKitC
import Derived.Test.YtpkiopijfhkagaaGreatDoorTwo
namespace Go.Proofs.YtpkiopijfhkagaaGreatDoor.kit
open Go.RowKit Go.Proofs.YtpkiopijfhkagaaGreatDoor.mem
set_option linter.unusedVariables false

def mkV (k j : Nat) : Value := .int .u8 ((mkB (k : Int) (j : Int)).toNat : Int)

/-- The marks that are written: in all rows before t, and in row t as far as i. -/
def Mk (t i k : Nat) (xs : List Value) : Prop := ∀ j, (k < t ∨ (k = t ∧ j < i)) → j < xs.length → xs[j]? = some (mkV k j)

/-- The blocks in which the rows lie. -/
def InRows (vs : List Value) (b : Nat) : Prop := ∃ (k : Nat) (v : Value), vs[k]? = some v ∧ v.ownBlock = some b

/-- A family of rows of bytes, their headers in a row of their own. -/
structure FS (w0 : World) (B : Nat) (lsv : Value) (vs : List Value) (ns : List Nat) (cont : Nat → List Value → Prop) (w : World) : Prop where
  row : w.ownsRow B 23 1 lsv ns.length vs
  each : ∀ k (h : k < ns.length), ∃ A c xs, vs[k]? = some (.slice A ns[k] c) ∧ w.ownsRow B 5 1 (.slice A ns[k] c) ns[k] xs ∧ cont k xs
  apart : ∀ j k, j < k → k < ns.length → ∀ u v g, vs[j]? = some u → vs[k]? = some v → u.ownBlock = some g → v.ownBlock ≠ some g
  below : Ch (InRows vs) w0 w

theorem own_some {w : World} {B n : Nat} {e : TypeId} {A : Option Addr} {c : Nat} {xs : List Value} (h : w.ownsRow B e 1 (.slice A n c) n xs) (hn : 0 < n) : ∃ g cur, A = some ⟨g, 0, none⟩ ∧ B ≤ g ∧ Blk w g e cur ∧ n ≤ cur.size ∧ xs.length = n ∧ ∀ j, j < n → cur[j]? = xs[j]? := by
  have hx := h.1
  rcases h.2 with ⟨_, h0⟩ | ⟨g, cap, cur, hv, hb, hg, hnc, hcm, hcs, ht⟩
  · omega
  · injection hv with hA _ hc
    refine ⟨g, cur, hA, hb, hg, by omega, by omega, fun j hj => ?_⟩
    rw [← ht, List.getElem?_take, if_pos (by omega)]
    simp

/-- The header of row k. -/
theorem FS.head {w0 w : World} {B : Nat} {A : Option Addr} {C : Nat} {vs : List Value} {ns : List Nat} {cont : Nat → List Value → Prop} (h : FS w0 B (.slice A ns.length C) vs ns cont w) {k : Nat} (hk : k < ns.length) :
    ∃ gl, A = some ⟨gl, 0, none⟩ ∧ ∀ k, k < ns.length → w.cell? ⟨gl, k, none⟩ = vs[k]? := by
  obtain ⟨g, cur, hA, _, hg, _, _, hc⟩ := own_some h.row (by omega)
  exact ⟨g, hA, fun k hk => by rw [hg.cell k]; exact hc k hk⟩

/-- A store into a row of the family. -/
theorem FS.store {w0 w : World} {B : Nat} {lsv : Value} {vs : List Value} {ns : List Nat} {t i : Nat} (h : FS w0 B lsv vs ns (Mk t i) w) (ht : t < ns.length) (hi : i < ns[t]) {g c : Nat} (hv : vs[t]? = some (.slice (some ⟨g, 0, none⟩) ns[t] c)) :
    FS w0 B lsv vs ns (Mk t (i + 1)) (w.setCell ⟨g, i, none⟩ (mkV t i)) := by
  have hch : Ch (fun b => b = g) w (w.setCell ⟨g, i, none⟩ (mkV t i)) := (Ch.refl (fun b => b = g) w).setCell (p := ⟨g, i, none⟩) (fun _ => rfl) _
  obtain ⟨A', c', xs, hv', ho, hc⟩ := h.each t ht
  rw [hv] at hv'
  injection hv' with hv'
  injection hv' with hA _ hc'
  subst hA
  subst hc'
  obtain ⟨_, cur, hA2, hBg, hblk, _, hxl, _⟩ := own_some ho (by omega)
  injection hA2 with hA2
  injection hA2 with hA2
  subst hA2
  refine ⟨own_ch h.row hch (fun b hb e => own_blk_ne h.row hblk (by decide) (hb.trans (congrArg some e))), fun k hk => ?_, h.apart, h.below.setCell (p := ⟨g, i, none⟩) (fun _ => ⟨t, _, hv, rfl⟩) _⟩
  by_cases e : k = t
  · subst e
    refine ⟨_, _, xs.set i (mkV k i), hv, (ho.stored i (mkV k i)).1, fun j hj hlt => ?_⟩
    rw [List.length_set] at hlt
    rw [List.getElem?_set]
    by_cases e2 : i = j
    · subst e2
      rw [if_pos rfl, if_pos hlt]
    · rw [if_neg e2]
      exact hc j (by omega) hlt
  · obtain ⟨A1, c1, xs1, hv1, ho1, hc1⟩ := h.each k hk
    refine ⟨A1, c1, xs1, hv1, own_ch ho1 hch (fun b hb eb => ?_), fun j hj hlt => hc1 j (by omega) hlt⟩
    have eb' : b = g := eb
    subst eb'
    rcases Nat.lt_or_gt_of_ne e with hlt | hgt
    · exact h.apart k t hlt ht _ _ b hv1 hv hb rfl
    · exact h.apart t k hgt hk _ _ b hv hv1 rfl hb
theorem FS.next {w0 w : World} {B : Nat} {lsv : Value} {vs : List Value} {ns : List Nat} {t : Nat} (h : FS w0 B lsv vs ns (Mk t ns[t]!) w) (ht : t < ns.length) : FS w0 B lsv vs ns (Mk (t + 1) 0) w :=
  ⟨h.row, fun k hk => by
    obtain ⟨A, c, xs, hv, ho, hc⟩ := h.each k hk
    refine ⟨A, c, xs, hv, ho, fun j hj hlt => hc j ?_ hlt⟩
    have hl := ho.1
    by_cases e : k = t
    · subst e
      right
      refine ⟨rfl, ?_⟩
      rw [getElem!_pos ns k ht]
      omega
    · left; omega, h.apart, h.below⟩
theorem FS.any {w0 w : World} {B : Nat} {lsv : Value} {vs : List Value} {ns : List Nat} {c1 c2 : Nat → List Value → Prop} (h : FS w0 B lsv vs ns c1 w) (hc : ∀ k xs, c1 k xs → c2 k xs) : FS w0 B lsv vs ns c2 w :=
  ⟨h.row, fun k hk => by obtain ⟨A, c, xs, hv, ho, hx⟩ := h.each k hk; exact ⟨A, c, xs, hv, ho, hc k xs hx⟩, h.apart, h.below⟩
theorem FS.drew {w0 w : World} {B : Nat} {lsv : Value} {vs : List Value} {ns : List Nat} {cont : Nat → List Value → Prop} (h : FS w0 B lsv vs ns cont w) (n : Nat) : FS w0 B lsv vs ns cont (w.drewN n) :=
  ⟨h.row, h.each, h.apart, ⟨h.below.os, h.below.tape, h.below.output, h.below.size, h.below.block⟩⟩

theorem FS.drew1 {w0 w : World} {B : Nat} {lsv : Value} {vs : List Value} {ns : List Nat} {cont : Nat → List Value → Prop} (h : FS w0 B lsv vs ns cont w) : FS w0 B lsv vs ns cont w.drew :=
  ⟨h.row, h.each, h.apart, ⟨h.below.os, h.below.tape, h.below.output, h.below.size, h.below.block⟩⟩


/-! ### the rows full of marks, and a second family grown out of the first -/
def rowOf (k n : Nat) : List Value := (List.range n).map (mkV k)
theorem rowOf_length (k n : Nat) : (rowOf k n).length = n := by simp [rowOf]
theorem rowOf_succ (k n : Nat) : rowOf k (n + 1) = rowOf k n ++ [mkV k n] := by simp [rowOf, List.range_succ]
theorem rowOf_get (k n j : Nat) (h : j < n) : (rowOf k n)[j]? = some (mkV k j) := by simp [rowOf, h]
theorem rowOf_take (k n m : Nat) (h : n ≤ m) : (rowOf k m).take n = rowOf k n := by
  simp only [rowOf, ← List.map_take, List.take_range, Nat.min_eq_left h]

def Full (ns : List Nat) (k : Nat) (xs : List Value) : Prop := xs = rowOf k ns[k]!

theorem own_lt {w : World} {B n : Nat} {e : TypeId} {v : Value} {xs : List Value} (h : w.ownsRow B e 1 v n xs) {g : Nat} (hg : v.ownBlock = some g) : B ≤ g ∧ g < w.heap.size ∧ ∃ cs, Blk w g e cs := by
  rcases h.2 with ⟨hv, _⟩ | ⟨g', cap, cur, hv, hb, hblk, _⟩
  · rw [hv] at hg; simp [Value.ownBlock] at hg
  · rw [hv] at hg
    simp only [Value.ownBlock, Option.some.injEq] at hg
    subst hg
    exact ⟨hb, Blk.lt hblk, cur, hblk⟩

variable {w0 w w' : World} {B : Nat} {lsv : Value} {vs us : List Value} {ns : List Nat}

theorem FS.full (h : FS w0 B lsv vs ns (Mk ns.length 0) w) : FS w0 B lsv vs ns (Full ns) w :=
  ⟨h.row, fun k hk => by
    obtain ⟨A, c, xs, hv, ho, hc⟩ := h.each k hk
    refine ⟨A, c, xs, hv, ho, ?_⟩
    have hl := ho.1
    unfold Full
    rw [getElem!_pos ns k hk]
    apply List.ext_getElem?
    intro j
    by_cases hj : j < ns[k]
    · rw [hc j (Or.inl hk) (by omega), rowOf_get k _ j hj]
    · rw [List.getElem?_eq_none (by omega), List.getElem?_eq_none (by rw [rowOf_length]; omega)], h.apart, h.below⟩

/-- What changes the row k alone, and leaves it its own cells. -/
theorem FS.twin {k : Nat} (hk : k < ns.length) {u v : Value} {m : Nat} {xs : List Value} (h : FS w0 B lsv vs ns (Full ns) w) (hu : vs[k]? = some u) (ht : Twin w w' B 5 u ns[k] v m xs) (hx : xs.take ns[k] = rowOf k ns[k]) (hB : B ≤ w.heap.size) :
    FS w0 B lsv vs ns (Full ns) w' := by
  obtain ⟨A, c, xk, hv, ho, _⟩ := h.each k hk
  have hu2 := hu
  rw [hv] at hu2
  injection hu2 with hu2
  refine ⟨own_ch h.row ht.ch (fun g hg hs => ?_), fun j hj => ?_, h.apart, h.below.then ht.ch (fun g _ hg => ⟨k, u, hu, hg⟩)⟩
  · rw [← hu2] at hs
    obtain ⟨_, _, cs, hb⟩ := own_lt ho hs
    exact own_blk_ne h.row hb (by decide) hg
  · by_cases e : j = k
    · subst e
      refine ⟨A, c, rowOf j ns[j], hv, ?_, ?_⟩
      · have := ht.old
        rw [hx, ← hu2] at this
        exact this
      · unfold Full
        rw [getElem!_pos ns j hj]
    · obtain ⟨A1, c1, x1, hv1, ho1, hc1⟩ := h.each j hj
      refine ⟨A1, c1, x1, hv1, own_ch ho1 ht.ch (fun g hg hs => ?_), hc1⟩
      rcases Nat.lt_or_gt_of_ne e with hlt | hgt
      · exact h.apart j k hlt hk _ _ g hv1 hu hg hs
      · exact h.apart k j hgt hj _ _ g hu hv1 hs hg

/-- The second family's rows, as far as t. -/
structure GS (B gb : Nat) (vs us : List Value) (ns : List Nat) (t : Nat) (cont : Nat → List Value → Prop) (w : World) : Prop where
  row : Blk w gb 23 us.toArray
  len : us.length = ns.length
  base : B ≤ gb
  each : ∀ k (h : k < ns.length), k < t → ∃ A c ys, us[k]? = some (.slice A (ns[k] + 64) c) ∧ w.ownsRow B 5 1 (.slice A (ns[k] + 64) c) (ns[k] + 64) ys ∧ cont k ys
  cross : ∀ j k, j < t → k < ns.length → j ≠ k → ∀ u v g, us[j]? = some u → vs[k]? = some v → u.ownBlock = some g → v.ownBlock ≠ some g

theorem GS.ch {t gb : Nat} {cont : Nat → List Value → Prop} (h : GS B gb vs us ns t cont w) {S : Nat → Prop} (hc : Ch S w w') (h1 : ¬ S gb) (h2 : ∀ j u g, j < t → j < ns.length → us[j]? = some u → u.ownBlock = some g → ¬ S g) : GS B gb vs us ns t cont w' :=
  ⟨h.row.ch hc h1, h.len, h.base, fun k hk hkt => by
    obtain ⟨A, c, ys, hu, ho, hy⟩ := h.each k hk hkt
    exact ⟨A, c, ys, hu, own_ch ho hc (fun g hg => h2 k _ g hkt hk hu hg), hy⟩, h.cross⟩

/-- The row t may be anything while it grows: the rows before it stand. -/
theorem GS.twin {t gb : Nat} {cont : Nat → List Value → Prop} (h : GS B gb vs us ns t cont w) (hF : FS w0 B lsv vs ns (Full ns) w) (ht : t < ns.length) {u v : Value} {m : Nat} {xs : List Value} (hu : vs[t]? = some u) (htw : Twin w w' B 5 u ns[t] v m xs) : GS B gb vs us ns t cont w' := by
  obtain ⟨A, c, xk, hv, ho, _⟩ := hF.each t ht
  have hu2 := hu
  rw [hv] at hu2
  injection hu2 with hu2
  refine h.ch htw.ch (fun hs => ?_) (fun j x g hj hjn hx hg hs => ?_)
  · rw [← hu2] at hs
    obtain ⟨_, _, cs, hb⟩ := own_lt ho hs
    exact absurd rfl (hb.ne_ h.row (by decide))
  · exact h.cross j t hj ht (by omega) x u g hx hu hg hs

theorem GS.put {t gb : Nat} {cont : Nat → List Value → Prop} {wS : World} (h : GS B gb vs us ns t cont w) (hF : FS w0 B lsv vs ns (Full ns) wS) (ht : t < ns.length) {u : Value} {A : Option Addr} {c : Nat} {xs : List Value} (hu : vs[t]? = some u) (htw : Twin wS w B 5 u ns[t] (.slice A (ns[t] + 64) c) (ns[t] + 64) xs) (hc : cont t xs) :
    GS B gb vs (us.set t (.slice A (ns[t] + 64) c)) ns (t + 1) cont (w.setCell ⟨gb, t, none⟩ (.slice A (ns[t] + 64) c)) := by
  have hlen := h.len
  have hch : Ch (fun b => b = gb) w (w.setCell ⟨gb, t, none⟩ (.slice A (ns[t] + 64) c)) := (Ch.refl (fun b => b = gb) w).setCell (p := ⟨gb, t, none⟩) (fun _ => rfl) _
  refine ⟨?_, by rw [List.length_set]; exact hlen, h.base, fun k hk hkt => ?_, fun j k hj hk hne x v g hx hv hg => ?_⟩
  · have := h.row.set_ t (.slice A (ns[t] + 64) c)
    simpa using this
  · by_cases e : k = t
    · subst e
      refine ⟨A, c, xs, by rw [List.getElem?_set, if_pos rfl, if_pos (by omega)], own_ch htw.new hch (fun b hb e => own_blk_ne htw.new h.row (by decide) (hb.trans (congrArg some e))), hc⟩
    · obtain ⟨A1, c1, y1, hu1, ho1, hc1⟩ := h.each k hk (by omega)
      exact ⟨A1, c1, y1, by rw [List.getElem?_set, if_neg (fun e2 => e e2.symm)]; exact hu1, own_ch ho1 hch (fun b hb e => own_blk_ne ho1 h.row (by decide) (hb.trans (congrArg some e))), hc1⟩
  · rw [List.getElem?_set] at hx
    by_cases e : t = j
    · subst e
      rw [if_pos rfl, if_pos (by omega)] at hx
      injection hx with hx
      subst hx
      rcases htw.lies with ⟨A', c', hu', hv'⟩ | ⟨b, hb, hbs⟩
      · injection hv' with hA _ hc'
        subst hA hc'
        have hg2 : u.ownBlock = some g := by rw [hu', ownBlock_len A _ (ns[t] + 64) c c]; exact hg
        intro hvg
        rcases Nat.lt_or_gt_of_ne hne with hlt | hgt
        · exact hF.apart t k hlt hk _ _ g hu hv hg2 hvg
        · exact hF.apart k t hgt ht _ _ g hv hu hvg hg2
      · rw [hb] at hg
        injection hg with hg
        subst hg
        intro hvg
        obtain ⟨Ak, ck, xk, hvk, hok, _⟩ := hF.each k hk
        rw [hv] at hvk
        injection hvk with hvk
        rw [hvk] at hvg
        have := (own_lt hok hvg).2.1
        omega
    · rw [if_neg e] at hx
      exact h.cross j k (by omega) hk hne x v g hx hv hg

def Pre (ns : List Nat) (k : Nat) (xs : List Value) : Prop := xs.take ns[k]! = rowOf k ns[k]!

theorem GS.any {t gb : Nat} {c1 c2 : Nat → List Value → Prop} (h : GS B gb vs us ns t c1 w) (hc : ∀ k xs, c1 k xs → c2 k xs) : GS B gb vs us ns t c2 w :=
  ⟨h.row, h.len, h.base, fun k hk hkt => by obtain ⟨A, c, ys, hu, ho, hy⟩ := h.each k hk hkt; exact ⟨A, c, ys, hu, ho, hc k ys hy⟩, h.cross⟩

theorem GS.top {t gb : Nat} {cont : Nat → List Value → Prop} (h : GS B gb vs us ns t cont w) (hF : FS w0 B lsv vs ns (Full ns) w) {k : Nat} (hk : k < ns.length) {u v : Value} {m : Nat} {xs : List Value} (hu : vs[k]? = some u) (htw : Twin w w' B 5 u ns[k] v m xs) : Blk w' gb 23 us.toArray := by
  obtain ⟨A, c, xk, hv, ho, _⟩ := hF.each k hk
  have hu2 := hu
  rw [hv] at hu2
  injection hu2 with hu2
  refine h.row.ch htw.ch (fun hs => ?_)
  rw [← hu2] at hs
  obtain ⟨_, _, cs, hb⟩ := own_lt ho hs
  exact absurd rfl (hb.ne_ h.row (by decide))

/-- One row of the second family is made anew out of the first. -/
theorem GS.swap {gb : Nat} {cont : Nat → List Value → Prop} (h : GS B gb vs us ns ns.length cont w) (hF : FS w0 B lsv vs ns (Full ns) w) {t : Nat} (ht : t < ns.length) {u : Value} {A : Option Addr} {c : Nat} {xs : List Value} (hu : vs[t]? = some u) (htw : Twin w w' B 5 u ns[t] (.slice A (ns[t] + 64) c) (ns[t] + 64) xs) (hc : cont t xs) :
    GS B gb vs (us.set t (.slice A (ns[t] + 64) c)) ns ns.length cont (w'.setCell ⟨gb, t, none⟩ (.slice A (ns[t] + 64) c)) := by
  have hlen := h.len
  have hrow := h.top hF ht hu htw
  have hch : Ch (fun b => b = gb) w' (w'.setCell ⟨gb, t, none⟩ (.slice A (ns[t] + 64) c)) := (Ch.refl (fun b => b = gb) w').setCell (p := ⟨gb, t, none⟩) (fun _ => rfl) _
  refine ⟨?_, by rw [List.length_set]; exact hlen, h.base, fun k hk hkt => ?_, fun j k hj hk hne x v g hx hv hg => ?_⟩
  · have := hrow.set_ t (.slice A (ns[t] + 64) c)
    simpa using this
  · by_cases e : k = t
    · subst e
      refine ⟨A, c, xs, by rw [List.getElem?_set, if_pos rfl, if_pos (by omega)], own_ch htw.new hch (fun b hb e => own_blk_ne htw.new hrow (by decide) (hb.trans (congrArg some e))), hc⟩
    · obtain ⟨A1, c1, y1, hu1, ho1, hc1⟩ := h.each k hk (by omega)
      have ho2 := own_ch ho1 htw.ch (fun g hg hs => h.cross k t hkt ht e _ u g hu1 hu hg hs)
      exact ⟨A1, c1, y1, by rw [List.getElem?_set, if_neg (fun e2 => e e2.symm)]; exact hu1, own_ch ho2 hch (fun b hb e => own_blk_ne ho2 hrow (by decide) (hb.trans (congrArg some e))), hc1⟩
  · rw [List.getElem?_set] at hx
    by_cases e : t = j
    · subst e
      rw [if_pos rfl, if_pos (by omega)] at hx
      injection hx with hx
      subst hx
      rcases htw.lies with ⟨A', c', hu', hv'⟩ | ⟨b, hb, hbs⟩
      · injection hv' with hA _ hc'
        subst hA hc'
        have hg2 : u.ownBlock = some g := by rw [hu', ownBlock_len A _ (ns[t] + 64) c c]; exact hg
        intro hvg
        rcases Nat.lt_or_gt_of_ne hne with hlt | hgt
        · exact hF.apart t k hlt hk _ _ g hu hv hg2 hvg
        · exact hF.apart k t hgt ht _ _ g hv hu hvg hg2
      · rw [hb] at hg
        injection hg with hg
        subst hg
        intro hvg
        obtain ⟨Ak, ck, xk, hvk, hok, _⟩ := hF.each k hk
        rw [hv] at hvk
        injection hvk with hvk
        rw [hvk] at hvg
        have := (own_lt hok hvg).2.1
        omega
    · rw [if_neg e] at hx
      exact h.cross j k hj hk hne x v g hx hv hg

/-- A row that fills its block, as a list that is read. -/
theorem reads_blk {g n : Nat} {t : TypeId} {cs : Array Value} (h : Blk w g t cs) (hn : cs.size = n) : Reads w w.heap.size 1 (some ⟨g, 0, none⟩) n cs.toList :=
  ⟨by rw [Array.length_toList]; omega, fun _ => ⟨_, rfl, h.lt, fun j u hu => by
    have := h.cell j
    have e : ((⟨g, 0, none⟩ : Addr).add j) = ⟨g, j, none⟩ := by rw [Addr.add_lit, Nat.zero_add]
    rw [e, this]
    simpa using hu⟩⟩

/-- A store into the second family's head leaves the first. -/
theorem FS.far (h : FS w0 B lsv vs ns (Full ns) w) {gb : Nat} (hB : w0.heap.size ≤ gb) {cs : Array Value} (hb : Blk w gb 23 cs) (hne : lsv.ownBlock ≠ some gb) (t : Nat) (x : Value) : FS w0 B lsv vs ns (Full ns) (w.setCell ⟨gb, t, none⟩ x) := by
  have hch : Ch (fun b => b = gb) w (w.setCell ⟨gb, t, none⟩ x) := (Ch.refl (fun b => b = gb) w).setCell (p := ⟨gb, t, none⟩) (fun _ => rfl) _
  refine ⟨own_ch h.row hch (fun b hb2 e => hne (hb2.trans (congrArg some e))), fun k hk => ?_, h.apart, h.below.setCell (p := ⟨gb, t, none⟩) (fun h => absurd h (by simp only; omega)) _⟩
  obtain ⟨A1, c1, y1, hu1, ho1, hc1⟩ := h.each k hk
  exact ⟨A1, c1, y1, hu1, own_ch ho1 hch (fun b hb2 e => own_blk_ne ho1 hb (by decide) (hb2.trans (congrArg some e))), hc1⟩

theorem FS.more {cont : Nat → List Value → Prop} (h : FS w0 B lsv vs ns cont w) (hn : New w w') (hB : B ≤ w.heap.size) : FS w0 B lsv vs ns cont w' :=
  ⟨own_new h.row hn, fun k hk => by obtain ⟨A, c, xs, hv, ho, hx⟩ := h.each k hk; exact ⟨A, c, xs, hv, own_new ho hn, hx⟩, h.apart, h.below.then (Ch.of_new (S := fun _ => False) hn) (fun _ _ hf => hf.elim)⟩
theorem GS.drew {t gb : Nat} {cont : Nat → List Value → Prop} (h : GS B gb vs us ns t cont w) (n : Nat) : GS B gb vs us ns t cont (w.drewN n) :=
  ⟨h.row, h.len, h.base, h.each, h.cross⟩
theorem GS.drew1 {t gb : Nat} {cont : Nat → List Value → Prop} (h : GS B gb vs us ns t cont w) : GS B gb vs us ns t cont w.drew :=
  ⟨h.row, h.len, h.base, h.each, h.cross⟩
theorem GS.more {t gb : Nat} {cont : Nat → List Value → Prop} (h : GS B gb vs us ns t cont w) (hn : New w w') : GS B gb vs us ns t cont w' :=
  h.ch (Ch.of_new (S := fun _ => False) hn) id (fun _ _ _ _ _ _ _ => id)
end Go.Proofs.YtpkiopijfhkagaaGreatDoor.kit
