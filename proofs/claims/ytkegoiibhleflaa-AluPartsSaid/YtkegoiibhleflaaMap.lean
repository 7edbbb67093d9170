/-
  A map that a call writes out as a literal with whole numbers as its keys, and asks on the spot: laws over any program.
-/
import Derived.Test.YtkegoiibhleflaaRows
import Derived.WalkKit
import Derived.ProofKit
import Derived.OpenShut
import Derived.MapKept
namespace Go.Proofs.Ytkegoiibhleflaa.lit
open Go.RowKit

/-- What the literal's entries say at a key, or 'd'. -/
def askIn (d : Value) (n : Int) : List MapEntry → Value
  | [] => d
  | e :: es => match e.key with
    | .int _ m => if n = m then e.val else askIn d n es
    | _ => askIn d n es

/-- All keys are of the kind q. -/
def ofKind (q : IntKind) : List MapEntry → Bool
  | [] => true
  | e :: es => match e.key with
    | .int k _ => (k == q) && ofKind q es
    | _ => false

theorem find_ask (q : IntKind) (n : Int) (d : Value) : ∀ (es : List MapEntry) (i : Nat), ofKind q es = true →
    (∃ j v, Instr.findNow (.int q) (.int q n) es i = some (some (j, v)) ∧ askIn d n es = v) ∨ (Instr.findNow (.int q) (.int q n) es i = some none ∧ askIn d n es = d)
  | [], i, _ => Or.inr ⟨rfl, rfl⟩
  | e :: es, i, h => by
    obtain ⟨key, val, born⟩ := e
    cases key <;> simp [ofKind] at h
    rename_i k m
    obtain ⟨rfl, h⟩ := h
    by_cases hn : n = m
    · refine Or.inl ⟨i, val, ?_, ?_⟩
      · simp [Instr.findNow, Instr.sameNow, hn]
      · simp [askIn, hn]
    · have he : (n == m) = false := by simp [hn]
      rcases find_ask k n d es (i + 1) h with ⟨j, v, h1, h2⟩ | ⟨h1, h2⟩
      · exact Or.inl ⟨j, v, by simp [Instr.findNow, Instr.sameNow, he, h1], by simp [askIn, hn, h2]⟩
      · exact Or.inr ⟨by simp [Instr.findNow, Instr.sameNow, he, h1], by simp [askIn, hn, h2]⟩

theorem heap_alloc (w : World) (o : Obj) : (w.alloc o).heap[w.heap.size]? = some o := (MapKept.heap_alloc w o).1

theorem run_insert {P : Program} {T K E : TypeId} {q : IntKind} (hT : P.underlying T = some (.map K E)) (hK : P.underlying K = some (.int q)) (w : World) (es : Array MapEntry) (clock : Nat) (n : Int) (v : Value)
    (hf : Instr.findNow (.int q) (.int q n) es.toList 0 = some none) :
    (Instr.mapUpdate T (.map (some w.heap.size)) (.int q n) v).run P (w.alloc (.map es clock)) = .ok () (w.alloc (.map (es.push ⟨.int q n, v, clock⟩) (clock + 1))) := by
  have hb := heap_alloc w (.map es clock)
  have hc := MapKept.run_checkKey (w := w.alloc (.map es clock)) hK (k := .int q n) (by simp [MapKept.IsKey]) false 9999
  have e : ({ (w.alloc (.map es clock)) with heap := (w.alloc (.map es clock)).heap.setIfInBounds w.heap.size (.map (es.push ⟨.int q n, v, clock⟩) (clock + 1)) } : World) = w.alloc (.map (es.push ⟨.int q n, v, clock⟩) (clock + 1)) := by
    show ({ w with heap := (w.heap.push (.map es clock)).setIfInBounds w.heap.size (.map (es.push ⟨.int q n, v, clock⟩) (clock + 1)) } : World) = { w with heap := w.heap.push (.map (es.push ⟨.int q n, v, clock⟩) (clock + 1)) }
    have e1 : (w.heap.push (.map es clock)).setIfInBounds w.heap.size (.map (es.push ⟨.int q n, v, clock⟩) (clock + 1)) = w.heap.push (.map (es.push ⟨.int q n, v, clock⟩) (clock + 1)) := by
      apply Array.ext
      · simp
      · intro i h1 h2
        rw [Array.getElem_setIfInBounds (by simpa using h1)]
        split
        · subst_vars; simp
        · rename_i hne; rw [Array.getElem_push, Array.getElem_push]
          simp at h1
          rw [dif_pos (by omega), dif_pos (by omega)]
    rw [e1]
  simp only [Instr.mapUpdate, Sem.run_bind, run_underlying hT, Result.andThen, MapKept.run_getObj_map hb, hc, Instr.findKey, run_underlying hK, hf, Sem.run_pure, MapKept.run_setObj_map _ hb]
  rw [e]

theorem run_askIn {P : Program} {T K E : TypeId} {q : IntKind} (hT : P.underlying T = some (.map K E)) (hK : P.underlying K = some (.int q)) (d : Value) (hz : ∀ w, (zeroValue E).run P w = .ok d w) (w : World) (es : Array MapEntry) (clock : Nat) (n : Int)
    (hf : ofKind q es.toList = true) :
    (Instr.lookup T (.map (some w.heap.size)) (.int q n) false).run P (w.alloc (.map es clock)) = .ok (askIn d n es.toList) (w.alloc (.map es clock)) := by
  have hb := heap_alloc w (.map es clock)
  have hc := MapKept.run_checkKey (w := w.alloc (.map es clock)) hK (k := .int q n) (by simp [MapKept.IsKey]) es.isEmpty 9999
  rcases find_ask q n d es.toList 0 hf with ⟨j, v, h1, h2⟩ | ⟨h1, h2⟩ <;>
    simp [Instr.lookup, Sem.run_bind, run_underlying hT, Result.andThen, MapKept.run_getObj_map hb, hc, Instr.findKey, run_underlying hK, h1, h2, hz]

section
variable {P : Program} {ops : Array Oper} {rest : List Oper} {o : Oper} {a : Act} {Q : Exit → Act → World → Prop}

theorem step_insert (hg : o.guard = none) (m x v : Operand) (T : TypeId) (hop : o.op = Op.insert T m x v) (K E : TypeId) (q : IntKind) (hT : P.underlying T = some (.map K E)) (hK : P.underlying K = some (.int q))
    (w : World) (es : Array MapEntry) (clock : Nat) (hm : a.eval m = .map (some w.heap.size)) (n : Int) (hx : a.eval x = .int q n) (val : Value) (hv : a.eval v = val)
    (hf : Instr.findNow (.int q) (.int q n) es.toList 0 = some none)
    (h : wpList P ops Q rest (a.put o.dst undef) (w.alloc (.map (es.push ⟨.int q n, val, clock⟩) (clock + 1)))) : wpList P ops Q (o :: rest) a (w.alloc (.map es clock)) := by
  refine wpList_plain hg fun K' hK' => ?_
  unfold Oper.wp
  simp [execOp, hop, hm, hx, hv, run_insert hT hK w es clock n val hf, Result.andThen]
  exact hK' _ _ h

theorem step_ask (hg : o.guard = none) (m x : Operand) (T : TypeId) (hop : o.op = Op.lookup T m x false) (K E : TypeId) (q : IntKind) (hT : P.underlying T = some (.map K E)) (hK : P.underlying K = some (.int q))
    (d : Value) (hz : ∀ w, (zeroValue E).run P w = .ok d w) (w : World) (es : Array MapEntry) (clock : Nat) (hm : a.eval m = .map (some w.heap.size)) (n : Int) (hx : a.eval x = .int q n)
    (hf : ofKind q es.toList = true)
    (h : wpList P ops Q rest (a.put o.dst (askIn d n es.toList)) (w.alloc (.map es clock))) : wpList P ops Q (o :: rest) a (w.alloc (.map es clock)) := by
  refine wpList_plain hg fun K' hK' => ?_
  unfold Oper.wp
  simp [execOp, hop, hm, hx, run_askIn hT hK d hz w es clock n hf, Result.andThen]
  exact hK' _ _ h
end

end Go.Proofs.Ytkegoiibhleflaa.lit
