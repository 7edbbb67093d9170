/-
  append(s, ..) onto a row of the call's own: where the new slice lies, and that the old slice keeps its cells.
-/
import Derived.Test.YtpkiopijfhkagaaGreatDoorKitC
namespace Go.Proofs.YtpkiopijfhkagaaGreatDoor.kit
open Go.RowKit Go.Proofs.YtpkiopijfhkagaaGreatDoor.mem
set_option linter.unusedVariables false

theorem ownBlock_len (A : Option Addr) (n m c d : Nat) : (Value.slice A n c).ownBlock = (Value.slice A m d).ownBlock := by
  cases A <;> rfl

theorem own_prefix {w : World} {B n m c : Nat} {e : TypeId} {A : Option Addr} {xs : List Value} (h : w.ownsRow B e 1 (.slice A m c) m xs) (hn : n ≤ m) : w.ownsRow B e 1 (.slice A n c) n (xs.take n) := by
  have hx := h.1
  refine ⟨by rw [List.length_take]; omega, ?_⟩
  rcases h.2 with ⟨hv, h0⟩ | ⟨g, cap, cur, hv, hb, hg, hnc, hcm, hcs, ht⟩
  · injection hv with hA _ hc
    left
    subst hA hc
    have : n = 0 := by omega
    subst this
    exact ⟨rfl, rfl⟩
  · injection hv with hA _ hc
    subst hA hc
    exact Or.inr ⟨g, c, cur, rfl, hb, hg, by omega, hcm, hcs, by rw [← ht, List.take_take]; congr 1; omega⟩

/-- What an append onto v answers: v itself made longer, or a slice at the head of a new block. -/
def Longer (w : World) (e : TypeId) (B : Nat) (v : Value) (n m : Nat) (xs news : List Value) (v' : Value) (w' : World) : Prop :=
  w'.ownsRow B e 1 v' (n + m) (xs ++ news) ∧ ((∃ A c, v = .slice A n c ∧ v' = .slice A (n + m) c ∧ w.grownBy w' v.ownBlock) ∨ (v'.ownBlock = some w.heap.size ∧ New w w'))

section
variable {P : Program} (w : World)
theorem run_append_two (base : Nat) (t ty e : TypeId) (i : TypeInfo) (z : Value) (bytes : Nat) (ht : P.underlying t = some (.slice e)) (hi : P.info? e = some i) (hz : i.zero = some z)
    (hsize : i.size = 1) (hby : i.bytes = bytes) (hzs : z.cells.size = 1)
    (v : Value) (n : Nat) (xs : List Value) (hown : w.ownsRow base e 1 v n xs)
    (B : Nat) (A : Option Addr) (m c : Nat) (news : List Value) (hr : Reads w B 1 A m news) (h1 : ∀ u ∈ news, u.oneCell' = true)
    (h63 : n + m ≤ maxLen) (hbytes : (n + m) * bytes ≤ 140737488355328) (hbase : base ≤ w.heap.size) :
    ∃ v' w', (Builtin.append_ #[t, t] ty #[v, .slice A m c]).run P w = .ok v' w' ∧ Longer w e base v n m xs news v' w' := by
  have hmax : n + m ≤ 9223372036854775807 := by simp only [maxLen] at h63; omega
  rcases hown.2 with ⟨hv, h0⟩ | ⟨g, cap, cur, hv, hb, hg, hnc, hcm, hcs, htk⟩
  · by_cases hm : m = 0
    · subst hm
      have hn : news = [] := List.eq_nil_of_length_eq_zero (by simpa using hr.1)
      subst hn
      subst h0
      obtain ⟨v', w', hrun, h2, h3, h5⟩ := run_append_any (P := P) w base t ty e i z 1 bytes ht hi hz hsize hby hzs (by omega) v 0 xs hown B A 0 c [] hr h1 h63 hbytes hbase
      subst hv
      refine ⟨v', w', hrun, h2, ?_⟩
      rcases h5 with h5 | h5
      · left
        obtain ⟨A', c', rfl, _⟩ := own_len h2
        rcases h2.2 with ⟨hv', _⟩ | ⟨g', cap', cur', hv', _⟩
        · exact ⟨none, 0, rfl, hv', h3⟩
        · rw [hv'] at h5
          simp [Value.ownBlock] at h5
      · right
        exact ⟨h5, ⟨h3.os, h3.tape, h3.output, h3.size, fun k hk => h3.block k hk (by simp [Value.ownBlock])⟩⟩
    · obtain ⟨v', w', hrun, h2, h3, h5⟩ := run_append_any (P := P) w base t ty e i z 1 bytes ht hi hz hsize hby hzs (by omega) v n xs hown B A m c news hr h1 h63 hbytes hbase
      subst hv
      refine ⟨v', w', hrun, h2, Or.inr ⟨?_, ⟨h3.os, h3.tape, h3.output, h3.size, fun k hk => h3.block k hk (by simp [Value.ownBlock])⟩⟩⟩
      rcases h5 with h5 | h5
      · rcases h2.2 with ⟨_, h0'⟩ | ⟨g', cap', cur', hv', _⟩
        · omega
        · rw [hv'] at h5
          simp [Value.ownBlock] at h5
      · exact h5
  · subst hv
    by_cases hroom : n + m ≤ cap
    · obtain ⟨w', hrun, h2, h3⟩ := run_append_fit (P := P) w base t ty e i 1 ht hi hsize g n cap xs hown B A m c news hr h1 hroom (by omega)
      exact ⟨_, w', hrun, h2, Or.inl ⟨some ⟨g, 0, none⟩, cap, rfl, rfl, h3⟩⟩
    · obtain ⟨v', w', hrun, h2, _, _⟩ := run_append_any (P := P) w base t ty e i z 1 bytes ht hi hz hsize hby hzs (by omega) _ n xs hown B A m c news hr h1 h63 hbytes hbase
      obtain ⟨ad, rfl, _, hc⟩ := hr.2 (by omega)
      have holds : ∀ j u, xs[j]? = some u → w.cell? ((⟨g, 0, none⟩ : Addr).add j) = some u := hown.cells (g := g) rfl
      have hrun2 := run_append_grow (P := P) w t ty e i z ht hi hz ⟨g, 0, none⟩ n cap xs (by rw [hsize]; exact hown.1) holds ad m c news (by rw [hsize]; exact hr.1) hc (by omega) (by omega) (growslice_fits (by omega) (by rw [hby]; exact hbytes))
      rw [hrun] at hrun2
      injection hrun2 with hv hw
      refine ⟨v', w', hrun, h2, Or.inr ⟨by rw [hv]; rfl, ?_⟩⟩
      rw [hw]
      exact (new_refl w).drewN 1 |>.then (Ch.below ((Ch.refl (fun _ => False) _).alloc _) (Nat.le_refl _) (fun _ _ hf => hf.elim))

theorem wpList_append_two {ops : Array Oper} {rest : List Oper} {o : Oper} {a : Act} {Q : Exit → Act → World → Prop} (hgd : o.guard = none) (s x : Operand) (t : TypeId)
    (ho : o.op = .call { callee := .builtin .append, args := #[s, x], argTypes := #[t, t] })
    (base : Nat) (e : TypeId) (i : TypeInfo) (z : Value) (bytes : Nat) (ht : P.underlying t = some (.slice e)) (hi : P.info? e = some i) (hz : i.zero = some z)
    (hsize : i.size = 1) (hby : i.bytes = bytes) (hzs : z.cells.size = 1)
    (v : Value) (n : Nat) (xs : List Value) (hs : a.eval s = v) (hown : w.ownsRow base e 1 v n xs)
    (B : Nat) (A : Option Addr) (m c : Nat) (news : List Value) (hx : a.eval x = .slice A m c) (hr : Reads w B 1 A m news) (h1 : ∀ u ∈ news, u.oneCell' = true)
    (h63 : n + m ≤ maxLen) (hbytes : (n + m) * bytes ≤ 140737488355328) (hbase : base ≤ w.heap.size)
    (h : ∀ v' w', Longer w e base v n m xs news v' w' → wpList P ops Q rest (a.put o.dst v') w') : wpList P ops Q (o :: rest) a w := by
  refine wpList_plain hgd fun _ hK => ?_
  obtain ⟨v', w', hrun, h2⟩ := run_append_two (P := P) w base t o.type e i z bytes ht hi hz hsize hby hzs v n xs hown B A m c news hr h1 h63 hbytes hbase
  unfold Oper.wp execOp
  simp only [ho, resolve, invoke, builtin, Sem.run_bind, Sem.run_pure, Result.andThen_ok, List.map_toArray, List.map_cons, List.map_nil, hs, hx, hrun]
  exact hK _ _ (h v' w' h2)
end

/-- v has grown out of u since the world wS. -/
structure Twin (wS w : World) (B : Nat) (e : TypeId) (u : Value) (n : Nat) (v : Value) (m : Nat) (xs : List Value) : Prop where
  new : w.ownsRow B e 1 v m xs
  old : w.ownsRow B e 1 u n (xs.take n)
  le : n ≤ m
  lies : (∃ A c, u = .slice A n c ∧ v = .slice A m c) ∨ (∃ b, v.ownBlock = some b ∧ wS.heap.size ≤ b)
  lt : ∀ b, u.ownBlock = some b → b < wS.heap.size
  ch : Ch (fun b => u.ownBlock = some b) wS w

theorem Twin.start {w : World} {B n : Nat} {e : TypeId} {u : Value} {xs : List Value} (h : w.ownsRow B e 1 u n xs) : Twin w w B e u n u n xs := by
  obtain ⟨A, c, hu, _⟩ := own_len h
  have hx := h.1
  refine ⟨h, ?_, Nat.le_refl _, Or.inl ⟨A, c, hu, hu⟩, fun b hb => ?_, Ch.refl _ _⟩
  · rw [List.take_of_length_le (by omega)]; exact h
  · rcases h.2 with ⟨hv, _⟩ | ⟨g, cap, cur, hv, _, hg, _⟩
    · rw [hv] at hb; simp [Value.ownBlock] at hb
    · rw [hv] at hb
      simp only [Value.ownBlock, Option.some.injEq] at hb
      subst hb
      exact Blk.lt hg

theorem Twin.more {wS w w' : World} {B n m : Nat} {e : TypeId} {u v : Value} {xs : List Value} (h : Twin wS w B e u n v m xs) (hn : New w w') : Twin wS w' B e u n v m xs :=
  ⟨own_new h.new hn, own_new h.old hn, h.le, h.lies, h.lt, h.ch.then (Ch.of_new (S := fun _ => False) hn) (fun _ _ hf => hf.elim)⟩

theorem Twin.step {wS w w' : World} {B n m k : Nat} {e : TypeId} {u v v' : Value} {xs news : List Value} (h : Twin wS w B e u n v m xs) (hl : Longer w e B v m k xs news v' w') : Twin wS w' B e u n v' (m + k) (xs ++ news) := by
  have hle := h.le
  have hx := h.new.1
  have htk : (xs ++ news).take n = xs.take n := by rw [List.take_append_of_le_length (by omega)]
  have hsz := h.ch.size
  obtain ⟨h2, ⟨A, c, hv, hv', hg⟩ | ⟨hv', hg⟩⟩ := hl
  · rcases h.lies with ⟨A', c', hu, hvu⟩ | ⟨b, hb, hbs⟩
    · rw [hv] at hvu
      injection hvu with hA _ hc
      subst hA hc
      refine ⟨h2, ?_, by omega, Or.inl ⟨A, c, hu, hv'⟩, h.lt, h.ch.then (Ch.of_grown hg) (fun i _ hi => ?_)⟩
      · rw [hv'] at h2
        have := own_prefix (n := n) h2 (by omega)
        rw [hu]
        exact this
      · rw [hu]
        rw [hv] at hi
        rw [ownBlock_len A n m c c]
        exact hi.symm
    · refine ⟨h2, ?_, by omega, Or.inr ⟨b, ?_, hbs⟩, h.lt, h.ch.then (Ch.of_grown hg) (fun i hi hi2 => ?_)⟩
      · rw [htk]
        refine own_ch h.old (Ch.of_grown hg) (fun g hg2 hg3 => ?_)
        have := h.lt g hg2
        rw [hb] at hg3
        injection hg3 with hg3
        omega
      · rw [← hb, hv, hv']
        exact ownBlock_len A _ _ c c
      · rw [hb] at hi2
        injection hi2 with hi2
        omega
  · refine ⟨h2, ?_, by omega, Or.inr ⟨_, hv', hsz⟩, h.lt, h.ch.then (Ch.of_new (S := fun _ => False) hg) (fun _ _ hf => hf.elim)⟩
    rw [htk]
    exact own_new h.old hg
end Go.Proofs.YtpkiopijfhkagaaGreatDoor.kit
