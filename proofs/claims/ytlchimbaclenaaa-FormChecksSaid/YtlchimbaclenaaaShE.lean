/-
  Contract of shape.Check: the first fault.
-/
import Derived.Test.YtlchimbaclenaaaShD
namespace Go.Proofs.Ytlchimbaclenaaa.sh
open Go.RowKit Go.Proofs.Ytlchimbaclenaaa.mem Go.Proofs.Ytlchimbaclenaaa.kit Go.Proofs.Ytlchimbaclenaaa.ins
set_option linter.unusedVariables false

def F4 : Nat → Nat
  | 0 => 28
  | 1 => 30
  | 2 => 31
  | _ => 32
def C4 (b0 b1 b2 b b3 : Nat) : Nat → Array Value
  | 0 => #[.pointer (some ⟨b0, 0, none⟩)]
  | 1 => #[.pointer (some ⟨b1, 0, none⟩)]
  | 2 => #[.pointer (some ⟨b2, 0, none⟩)]
  | _ => #[.pointer (some ⟨b3, 0, none⟩), .pointer (some ⟨b, 0, none⟩)]
def Q4 (l : List In) : Nat → Nat → Int
  | 0 => qR l
  | 1 => qF l
  | 2 => qE l
  | _ => qD l
def R4 (l : List In) (i k j : Nat) : Bool := cmb l (if i = 3 then k else 0) j

theorem cmb_0 (l : List In) (j : Nat) : cmb l 0 j = decide (j = 0) := by simp [cmb]
theorem cmb_succ (l : List In) (m j : Nat) : cmb l (m + 1) j = (cmb l m j || decide ((j : Int) ∈ nx l (m : Int))) := by
  simp [cmb, List.range_succ, Bool.or_assoc]

theorem enter_of {P : Program} {f : FuncId} {fn : Func} {c : Code} (hf : P.funcs[f]? = some fn) (hname : (fn.name == "runtime.NumGoroutine") = false) (hb : fn.body = some c) (args : Array Value) (w : World) :
    (callFunc f args).run P w = .ok (.enter f args) w := by
  have h1 : fn.name ≠ "runtime.NumGoroutine" := by simpa using hname
  simp [callFunc, hf, h1, hb]
theorem F4_enter : ∀ i, i < 4 → ∀ (args : Array Value) (W : World), (callFunc (F4 i) args).run Try.prog W = .ok (.enter (F4 i) args) W
  | 0, _, args, W => enter_of Try.func28 (by kernel_rfl) rfl args W
  | 1, _, args, W => enter_of Try.func30 (by kernel_rfl) rfl args W
  | 2, _, args, W => enter_of Try.func31 (by kernel_rfl) rfl args W
  | 3, _, args, W => enter_of Try.func32 (by kernel_rfl) rfl args W
  | i + 4, h, _, _ => absurd h (by omega)

/-- All that the four questions hold. -/
structure PR (w : World) (B b0 b1 b2 b b3 g : Nat) (A : Option Addr) (n c : Nat) (l : List In) : Prop where
  hA : Reads w B 8 A n (vi l)
  hB : B ≤ g
  hBw : B ≤ w.heap.size
  c0 : w.cell? ⟨b0, 0, none⟩ = some (.slice A n c)
  c1 : w.cell? ⟨b1, 0, none⟩ = some (.slice A n c)
  c2 : w.cell? ⟨b2, 0, none⟩ = some (.slice A n c)
  hb : w.cell? ⟨b, 0, none⟩ = some (.slice A n c)
  h3 : w.cell? ⟨b3, 0, none⟩ = some (.slice (some ⟨g, 0, none⟩) n n)
  n0 : b0 ≠ g
  n1 : b1 ≠ g
  n2 : b2 ≠ g
  nb : b ≠ g
  n3 : b3 ≠ g

theorem reads_chg {w W : World} {B g n : Nat} {A : Option Addr} {l : List In} (h : Reads w B 8 A n (vi l)) (hB : B ≤ g) (hc : Chg g w W) : Reads W B 8 A n (vi l) :=
  ⟨h.1, fun hn => by
    obtain ⟨ad, e, hl, hcell⟩ := h.2 hn
    exact ⟨ad, e, hl, fun j u hu => hc.cellOf (hcell j u hu) (by rw [block_of_add]; omega)⟩⟩

theorem asks {w : World} {B b0 b1 b2 b b3 g : Nat} {A : Option Addr} {n c : Nat} {l : List In} (h : PR w B b0 b1 b2 b b3 g A n c l) (hn : n = l.length) (hl : n ≤ 1099511627776) :
    ∀ i, i < 4 → (∀ i', i' < i → ∀ k', k' < n → Q4 l i' k' = 0) → ∀ k, k < n → (∀ k', k' < k → Q4 l i k' = 0) → ∀ W, Chg g w W → Bo W g n (R4 l i k) →
      Calls Try.prog (F4 i) (#[.int .i64 (k : Int)] ++ C4 b0 b1 b2 b b3 i) W fun e w' => e = .returned (.int .i64 (Q4 l i k)) ∧ (Q4 l i k = 0 → Bo w' g n (R4 l i (k + 1))) ∧ Chg g W w' := by
  intro i hi hp k hk hpk W hc hbo
  have hR := reads_chg h.hA h.hB hc
  have hBW : B ≤ W.heap.size := Nat.le_trans h.hBw hc.size
  have hRI : RI W A l := by have := hR.here hBW; rw [hn] at this; exact this
  have hnn : ∀ (i : Nat), i < 3 → ∀ {w' : World}, New W w' → Bo W g n (R4 l i k) → Bo w' g n (R4 l i (k + 1)) := fun i hi w' hw hb => by
    have e : R4 l i (k + 1) = R4 l i k := by funext j; simp only [R4]; rw [if_neg (by omega), if_neg (by omega)]
    rw [e]
    exact hb.new hw
  rcases (show i = 0 ∨ i = 1 ∨ i = 2 ∨ i = 3 by omega) with rfl | rfl | rfl | rfl
  · exact (right1_any b0 A n c k l W hn hl hk hRI (hc.cellOf h.c0 h.n0)).mono fun e w' ⟨he, hw⟩ => ⟨he, fun _ => hnn 0 (by omega) hw hbo, Ch.of_new hw⟩
  · have hok : ok (ig l k) = true := qR_0.1 (hp 0 (by omega) k hk)
    have hcb := hc.cellOf h.c1 h.n1
    exact (forward1_any b1 A n c k l W hn hl hk hRI hcb (block_lt_of_cell hcb) hok).mono fun e w' ⟨he, hw⟩ => ⟨he, fun _ => hnn 1 (by omega) hw hbo, Ch.of_new hw⟩
  · exact (ended1_any b2 A n c k l W hn hl hk hRI (hc.cellOf h.c2 h.n2)).mono fun e w' ⟨he, hw⟩ => ⟨he, fun _ => hnn 2 (by omega) hw hbo, Ch.of_new hw⟩
  · have hct : CT W B b b3 g A n c l (R4 l 3 k) := ⟨hR, h.hB, hc.cellOf h.hb h.nb, hc.cellOf h.h3 h.n3, h.nb, h.n3, hbo⟩
    have hin : ∀ j ∈ nx l (k : Int), (k : Int) < j ∧ j < (n : Int) := fun j hj => by
      have := nx_in (l := l) (fun k' hk' => hp 1 (by omega) k' (by omega)) (fun k' hk' => hp 2 (by omega) k' (by omega)) (by omega) hj
      rw [hn]
      exact this
    refine (comeTo1_any B b b3 g A n c k l _ W hn hl hk hBW hct hin).mono fun e w' ⟨he, hb, hch⟩ => ⟨he, fun h0 => ?_, hch⟩
    have hck : cmb l k k = true := qD_0.1 h0
    refine hb.alike (fun j hj => ?_)
    show (if R4 l 3 k k = true then R4 l 3 k j || decide ((j : Int) ∈ nx l (k : Int)) else R4 l 3 k j) = cmb l (k + 1) j
    have e : R4 l 3 k k = true := hck
    rw [if_pos e, cmb_succ]
    rfl
end Go.Proofs.Ytlchimbaclenaaa.sh
