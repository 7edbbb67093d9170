/-
  Contracts of frame's scan: all frames, one by one.
-/
import Derived.Test.YtlbbhheaginddaaTake
import Derived.Test.YtlbbhheaginddaaBag
import Derived.Test.YtlbbhheaginddaaRange
namespace Go.Proofs.Ytlbbhheaginddaa.fr
open Go.RowKit Go.Shelf Go.Proofs.Ytlbbhheaginddaa.mem Go.Proofs.Ytlbbhheaginddaa.kit Go.Proofs.Ytlbbhheaginddaa.wire Go.Proofs.Ytlbbhheaginddaa.crc Go.Proofs.Ytlbbhheaginddaa.rng
set_option linter.unusedVariables false
attribute [local go_sem] Oper.semAt_some

/-- A frame as it is handed on. -/
abbrev It := Fr × Option Addr × Nat
abbrev itV (x : It) : Value := .agg #[.int .i64 (x.1.1.toNat : Int), .slice x.2.1 x.1.2.length x.2.2]
def itC (x : It) : List Value := [.int .i64 (x.1.1.toNat : Int), .slice x.2.1 x.1.2.length x.2.2]
def itR (x : It) : Value × List UInt8 := (.slice x.2.1 x.1.2.length x.2.2, x.1.2)

theorem _root_.Go.Proofs.Ytlbbhheaginddaa.kit.RSt.push_at {w0 w w' : World} {rs : List (Value × List UInt8)} {A : Option Addr} {c : Nat} {l : List UInt8} (h : RSt w0 rs w) (hk : RSt w0 rs w') (ho : w'.ownsRow w.heap.size 5 1 (.slice A l.length c) l.length (vb l)) :
    RSt w0 (rs ++ [(.slice A l.length c, l)]) w' := by
  refine ⟨hk.new, fun k hlt => ?_, fun j k hj hlt g hg => ?_⟩
  · by_cases he : k < rs.length
    · rw [List.getElem_append_left he]
      exact hk.row k he
    · obtain rfl : k = rs.length := by simp at hlt; omega
      rw [List.getElem_append_right (Nat.le_refl _)]
      simp only [Nat.sub_self, List.getElem_cons_zero]
      exact ⟨⟨A, c, rfl⟩, own_base ho h.new.size⟩
  · by_cases he : k < rs.length
    · rw [List.getElem_append_left he]
      rw [List.getElem_append_left (by omega)] at hg
      exact hk.apart j k hj he g hg
    · obtain rfl : k = rs.length := by simp at hlt; omega
      rw [List.getElem_append_right (Nat.le_refl _)]
      simp only [Nat.sub_self, List.getElem_cons_zero]
      rw [List.getElem_append_left hj] at hg
      intro hg2
      have h1 := ((h.row j hj).2.lt g hg).2
      have h2 := (ho.lt g hg2).1
      omega
theorem new_chg {w0 w w' : World} {g : Nat} (h : New w0 w) (hg : w0.heap.size ≤ g) (hch : Ch (fun j => j = g) w w') : New w0 w' :=
  ((Ch.of_new (S := fun j => j = g) h).then hch (fun i hi e => e)).below (Nat.le_refl _) (fun k hk e => by have e' : k = g := e; omega)
theorem _root_.Go.Proofs.Ytlbbhheaginddaa.kit.RSt.chg {w0 w w' : World} {rs : List (Value × List UInt8)} {g : Nat} {t : TypeId} {cs : Array Value} (h : RSt w0 rs w) (hb : Blk w g t cs) (ht : 5 ≠ t) (hg : w0.heap.size ≤ g) (hch : Ch (fun j => j = g) w w') : RSt w0 rs w' :=
  ⟨new_chg h.new hg hch, fun k hk => ⟨(h.row k hk).1, own_ch (h.row k hk).2 hch (fun j hj e => own_blk_ne (h.row k hk).2 hb ht (hj.trans (congrArg some e)))⟩, h.apart⟩

theorem bk_ch {l D : Nat} {R : Loop} {W W' : World} {g : Nat} {t : TypeId} {cs : Array Value} (h : Bk l D R W) (hb : Blk W g t cs) (hch : Ch (fun j => j = g) W W') : Bk l D R W' := by
  obtain ⟨h1, h2⟩ := h
  refine ⟨(hch.block l (Array.getElem?_eq_some_iff.1 h1).1 (fun e => ?_)).trans h1, (hch.block D (Array.getElem?_eq_some_iff.1 h2).1 (fun e => ?_)).trans h2⟩
  · have e' : l = g := e
    subst e'
    unfold Blk at hb
    rw [h1] at hb
    cases hb
  · have e' : D = g := e
    subst e'
    unfold Blk at hb
    rw [h2] at hb
    cases hb
theorem bk_new {l D : Nat} {R : Loop} {W W' : World} (h : Bk l D R W) (hn : New W W') : Bk l D R W' :=
  ⟨(hn.block l (Array.getElem?_eq_some_iff.1 h.1).1).trans h.1, (hn.block D (Array.getElem?_eq_some_iff.1 h.2).1).trans h.2⟩

theorem SG.used {B g u : Nat} {w : World} {l : List UInt8} (h : SG B w g l u) (u' : Nat) : SG B (w.setCell ⟨g, 1, none⟩ (.int .i64 (u' : Int))) g l u' := by
  obtain ⟨A, c, hb, h1, h2, hr, hne⟩ := h
  exact ⟨A, c, hb.set_ 1 _, h1, h2, hr.setCell (p := ⟨g, 1, none⟩) hne _, hne⟩
theorem SG.blk {B g u : Nat} {w : World} {l : List UInt8} (h : SG B w g l u) : ∃ v, Blk w g 53 #[v, .int .i64 (u : Int)] := by
  obtain ⟨A, c, hb, _⟩ := h
  exact ⟨_, hb⟩

/-- What is scanned so far. -/
structure Sc (w0 : World) (g : Nat) (l : List UInt8) (tk : List It) (W : World) : Prop where
  rows : RSt w0 (tk.map itR) W
  left : ∃ r, l = fbs (tk.map (·.1)) ++ r ∧ told l = tk.map (·.1) ++ told r ∧ crc.left l = crc.left r ∧ SG w0.heap.size W g r (fbs (tk.map (·.1))).length
/-- The frames that were handed on. -/
def Bx (w0 : World) (Bf : Nat) (tk : List It) (W : World) : Prop :=
  ∃ v, Blk W Bf 32 #[v] ∧ W.ownsRow w0.heap.size 31 2 v tk.length (tk.map itC).flatten
theorem Sc.keep {w0 W W' : World} {g : Nat} {l : List UInt8} {tk : List It} (h : Sc w0 g l tk W) (hn : New W W') : Sc w0 g l tk W' := by
  obtain ⟨hr, r, h1, h2, h3, h4⟩ := h
  exact ⟨hr.keep hn, r, h1, h2, h3, h4.new hn⟩
theorem Bx.keep {w0 W W' : World} {Bf : Nat} {tk : List It} (h : Bx w0 Bf tk W) (hn : New W W') : Bx w0 Bf tk W' := by
  obtain ⟨v, hb, ho⟩ := h
  exact ⟨v, hb.below hn hb.lt, own_new ho hn⟩
theorem Bx.chg {w0 W W' : World} {Bf g : Nat} {tk : List It} {cs : Array Value} (h : Bx w0 Bf tk W) (hb : Blk W g 53 cs) (hch : Ch (fun j => j = g) W W') : Bx w0 Bf tk W' := by
  obtain ⟨v, hf, ho⟩ := h
  exact ⟨v, hf.ch hch (fun e => hf.ne_ hb (by decide) e), own_ch ho hch (fun j hj e => own_blk_ne ho hb (by decide) (hj.trans (congrArg some e)))⟩

set_option maxRecDepth 100000 in
theorem size_any (k : Int) (A : Option Addr) (n c : Nat) (w : World) (hn : n ≤ 1099511627776) : Calls Try.prog 34 #[.agg #[.int .i64 k, .slice A n c]] w fun e w' => e = .returned (.int .i64 ((9 + n : Nat) : Int)) ∧ New w w' := by
  go_enter Try.func34, Try.ntmps34
  go_wp2
  go_ret
  exact ⟨ret_int (by omega), alloc_new _ _⟩

/-- How much is left, as the memory says. -/
def leftN (g : Nat) (w : World) : Nat := match w.cell? ⟨g, 0, none⟩ with
  | some (.slice _ n _) => n
  | _ => 0
theorem SG.leftN {B g u : Nat} {w : World} {l : List UInt8} (h : SG B w g l u) : leftN g w = l.length := by
  obtain ⟨A, c, hb, _⟩ := h
  unfold fr.leftN
  rw [show w.cell? ⟨g, 0, none⟩ = some (.slice A l.length c) from (hb.cell 0).trans rfl]

/-- One frame is taken. -/
theorem Sc.take {w0 W W' : World} {g : Nat} {tk : List It} {r : List UInt8} {l : List UInt8} {A : Option Addr} {c : Nat} (hrows : RSt w0 (tk.map itR) W) (h1 : l = fbs (tk.map (·.1)) ++ r) (h2 : told l = tk.map (·.1) ++ told r) (h3 : crc.left l = crc.left r)
    (hs : st r = 1) (hsg : SG w0.heap.size W g r (fbs (tk.map (·.1))).length) (ho : W'.ownsRow W.heap.size 5 1 (.slice A (datF r).length c) (datF r).length (vb (datF r))) (hch : Ch (fun j => j = g) W W') :
    RSt w0 ((tk ++ [((kdF r, datF r), A, c)]).map itR) W' ∧ l = fbs ((tk ++ [((kdF r, datF r), A, c)]).map (·.1)) ++ nxtF r ∧ told l = (tk ++ [((kdF r, datF r), A, c)]).map (·.1) ++ told (nxtF r) ∧ crc.left l = crc.left (nxtF r) ∧ (fbs ((tk ++ [((kdF r, datF r), A, c)]).map (·.1))).length = (fbs (tk.map (·.1))).length + (9 + (datF r).length) := by
  obtain ⟨v, hb⟩ := hsg.blk
  obtain ⟨q1, q2, q3, q4⟩ := st_whole r hs
  obtain ⟨e1, e2⟩ := scan_whole r hs
  refine ⟨?_, ?_, ?_, ?_, ?_⟩
  · rw [List.map_append]
    exact hrows.push_at (hrows.chg hb (by decide) hsg.lt.1 hch) ho
  · rw [List.map_append, fbs_append, List.append_assoc]
    simp only [List.map_cons, List.map_nil, fbs_cons, fbs_nil, List.append_nil]
    rw [← q4]
    exact h1
  · rw [h2, e1, List.map_append, List.append_assoc]
    rfl
  · rw [h3, e2]
  · rw [List.map_append, fbs_append, List.length_append]
    simp only [List.map_cons, List.map_nil, fbs_cons, fbs_nil, List.append_nil, fb_length]
end Go.Proofs.Ytlbbhheaginddaa.fr
