/-
  packet.Get, whole.
-/
import Derived.Test.YtgddfclclibcgaaDoorPkD
namespace Go.Proofs.YtgddfclclibcgaaDoor.pk
open Go.RowKit Go.Shelf Go.Proofs.YtgddfclclibcgaaDoor.mem Go.Proofs.YtgddfclclibcgaaDoor.kit Go.Proofs.YtgddfclclibcgaaDoor.rng
set_option linter.unusedVariables false

abbrev getW (w : World) (A : Value) (p k : Int) : World := (((w.alloc (.cells #[A] 22)).alloc (.cells #[.int .i64 p] 2)).alloc (.cells #[.int .i64 k] 3)).alloc (.cells #[.int .u64 0] 27)
theorem gb_start (w : World) (A : Value) (p k : Int) : GB w A p k w.heap.size 0 (errC (getW w A p k)) := by
  have n1 := alloc_new w (.cells #[A] 22)
  have n2 := alloc_new (w.alloc (.cells #[A] 22)) (.cells #[.int .i64 p] 2)
  have n3 := alloc_new ((w.alloc (.cells #[A] 22)).alloc (.cells #[.int .i64 p] 2)) (.cells #[.int .i64 k] 3)
  have n4 := alloc_new (((w.alloc (.cells #[A] 22)).alloc (.cells #[.int .i64 p] 2)).alloc (.cells #[.int .i64 k] 3)) (.cells #[.int .u64 0] 27)
  have n5 := alloc_new (getW w A p k) (.cells #[.int .i64 0] 32)
  have h1 := Blk.new w 22 #[A]
  have h2 := Blk.new (w.alloc (.cells #[A] 22)) 2 #[.int .i64 p]
  have h3 := Blk.new ((w.alloc (.cells #[A] 22)).alloc (.cells #[.int .i64 p] 2)) 3 #[.int .i64 k]
  have h4 := Blk.new (((w.alloc (.cells #[A] 22)).alloc (.cells #[.int .i64 p] 2)).alloc (.cells #[.int .i64 k] 3)) 27 #[.int .u64 0]
  simp only [World.size_alloc] at h2 h3 h4
  exact ⟨New.then n1 (New.then n2 (New.then n3 (New.then n4 n5))), Nat.le_refl _, (((h1.alloc _).alloc _).alloc _).alloc _, ((h2.alloc _).alloc _).alloc _, (h3.alloc _).alloc _, h4.alloc _⟩

theorem GB.ch {w0 w w' : World} {A : Value} {p k v : Int} {b i : Nat} (h : GB w0 A p k b v w) (hc : Ch (fun j => j = i) w w') (hi : b + 3 < i) (hw : w0.heap.size ≤ i) : GB w0 A p k b v w' :=
  ⟨((Ch.of_new (S := fun j => j = i) h.new).then hc (fun _ _ e => e)).below (Nat.le_refl _) (fun j hj e => by have e' : j = i := e; omega), h.le, h.b0.ch hc (fun e => by have e' : b = i := e; omega), h.b1.ch hc (fun e => by have e' : b + 1 = i := e; omega), h.b2.ch hc (fun e => by have e' : b + 2 = i := e; omega), h.b3.ch hc (fun e => by have e' : b + 3 = i := e; omega)⟩
set_option maxRecDepth 100000 in
set_option maxHeartbeats 1000000 in
theorem get_box (A : Option Addr) (n c : Nat) (p k x v : Int) (w : World) (hc : Calls Tryd.prog 20 #[.func (.func 24) #[] #[.pointer (some ⟨w.heap.size, 0, none⟩), .pointer (some ⟨w.heap.size + 1, 0, none⟩), .pointer (some ⟨w.heap.size + 2, 0, none⟩), .pointer (some ⟨w.heap.size + 3, 0, none⟩)]] (getW w (.slice A n c) p k) fun e w' => e = .returned (.int .i64 x) ∧ GB w (.slice A n c) p k w.heap.size v w') :
    Calls Tryd.prog 15 #[.slice A n c, .int .i64 p, .int .i64 k] w fun e w' => e = .returned (.tuple #[.int .u64 v, .int .i64 x]) ∧ New w w' := by
  have hmf : ∀ (fn : Fn) (first cap : Array Value) (w : World), (Instr.makeFunc fn first cap).run Tryd.prog w = .ok (.func fn first cap) w := fun _ _ _ _ => rfl
  have HC := Lib.hid hc
  clear hc
  go_enter Tryd.func15, Tryd.ntmps15
  go_wp2_with (go_at_call 20; (with_reducible refine HC.out.mono ?_); rintro e w1 ⟨rfl, hg⟩; have HG := Lib.hid hg; have d3 : w1.cell? ⟨w.heap.size + 3, 0, none⟩ = some (.int .u64 v) := (hg.b3.cell 0).trans rfl; have z3 := hg.b3.frozen 0; clear hg)
  refine bodyPost_ret (v := .tuple #[.int .u64 v, .int .i64 x]) (by simp [results, Tryd.results15, go_sem, d3]) rfl ?_
  exact ⟨rfl, HG.out.new.setCell (p := ⟨w.heap.size + 3, 0, none⟩) (by simp) _⟩

/-- Get: the number at the place, or the error. -/
theorem get_any (A : Option Addr) (n c : Nat) (p k : Int) (l : List UInt8) (w : World) (hT : SzT w) (hn : n = l.length) (hc : n ≤ c) (hcm : c ≤ maxLen) (hR : Reads w w.heap.size 1 A n (vb l)) :
    Calls Tryd.prog 15 #[.slice A n c, .int .i64 p, .int .i64 k] w fun e w' => e = .returned (.tuple #[.int .u64 ((getN l p k : Nat) : Int), .int .i64 (errM l.length p k)]) ∧ New w w' := by
  have hg := gb_start w (.slice A n c) p k
  have hw : New w (getW w (.slice A n c) p k) := by
    have n1 := alloc_new w (.cells #[.slice A n c] 22)
    exact New.then n1 (New.then (alloc_new _ _) (New.then (alloc_new _ _) (alloc_new _ _)))
  have hT5 : SzT (errC (getW w (.slice A n c) p k)) := (hT.new hw).new (alloc_new _ _)
  have eg := enters_of Tryd.func24 (by kernel_rfl) rfl
  have hfault : ∀ x, Calls Tryd.prog 24 #[.pointer (some ⟨w.heap.size, 0, none⟩), .pointer (some ⟨w.heap.size + 1, 0, none⟩), .pointer (some ⟨w.heap.size + 2, 0, none⟩), .pointer (some ⟨w.heap.size + 3, 0, none⟩)] (errC (getW w (.slice A n c) p k)) (Fault (errC (getW w (.slice A n c) p k)) x) → errM l.length p k = x → x ≠ 0 →
      Calls Tryd.prog 15 #[.slice A n c, .int .i64 p, .int .i64 k] w fun e w' => e = .returned (.tuple #[.int .u64 ((getN l p k : Nat) : Int), .int .i64 (errM l.length p k)]) ∧ New w w' := by
    intro x hf he hx
    have e0 : getN l p k = 0 := by unfold getN; rw [if_neg (by rw [he]; exact hx)]
    rw [he, e0]
    refine get_box A n c p k x 0 w ((caught_fault _ _ x _ eg hf).mono fun e w' h => ⟨h.1, ?_⟩)
    have n1 := alloc_new w (.cells #[.slice A n c] 22)
    have h1 := Blk.new w 22 #[.slice A n c]
    have h2 := Blk.new (w.alloc (.cells #[.slice A n c] 22)) 2 #[.int .i64 p]
    have h3 := Blk.new ((w.alloc (.cells #[.slice A n c] 22)).alloc (.cells #[.int .i64 p] 2)) 3 #[.int .i64 k]
    have h4 := Blk.new (((w.alloc (.cells #[.slice A n c] 22)).alloc (.cells #[.int .i64 p] 2)).alloc (.cells #[.int .i64 k] 3)) 27 #[.int .u64 0]
    simp only [World.size_alloc] at h2 h3 h4
    have g0 : GB w (.slice A n c) p k w.heap.size 0 (getW w (.slice A n c) p k) := ⟨hw, Nat.le_refl _, ((h1.alloc _).alloc _).alloc _, (h2.alloc _).alloc _, h3.alloc _, h4⟩
    exact g0.keep h.2
  by_cases hz : isz k = false
  · exact hfault 2 (get_arg w _ A n c p k w.heap.size hg hT5 hz) (by unfold errM; rw [if_pos hz]) (by decide)
  · have hz' : isz k = true := by simpa using hz
    have hnm : n ≤ maxLen := Nat.le_trans hc hcm
    by_cases hp : p < 0 ∨ (n : Int) - k < p
    · exact hfault 112 (get_bounds w _ A n c p k w.heap.size hg hT5 hz' hnm hp) (by unfold errM; rw [if_neg hz, if_pos (by rw [← hn]; exact hp)]) (by decide)
    · have hkr := isz_rng hz'
      obtain ⟨P, rfl⟩ : ∃ P : Nat, p = (P : Int) := ⟨p.toNat, by omega⟩
      obtain ⟨K, rfl⟩ : ∃ K : Nat, k = (K : Int) := ⟨k.toNat, by omega⟩
      have hPK : P + K ≤ n := by omega
      obtain ⟨g, o, rfl⟩ : ∃ g o, A = some ⟨g, o, none⟩ := by
        obtain ⟨ad, e, hb, hcell⟩ := hR.2 (by omega)
        have h0 := hcell 0 _ (vb_get l 0 (by omega))
        obtain ⟨gb, go, gs⟩ := ad
        cases gs with
        | none => exact ⟨gb, go, e⟩
        | some s => exfalso; simp [World.cell?, Addr.add] at h0; split at h0 <;> simp_all
      have he : errM l.length (P : Int) (K : Int) = 0 := errM_ok hz' (by omega) (by omega)
      have e1 : getN l (P : Int) (K : Int) = beN (pieceOf l P K) := by unfold getN; rw [if_pos he]; simp
      rw [he, e1]
      have hok := get_ok w (errC (getW w (.slice (some ⟨g, o, none⟩) n c) P K)) g o n c P K w.heap.size l hn hg hT5 hz' hc hcm hPK hR
      refine get_box _ n c P K 0 _ w ?_
      refine (caught_ok _ _ (fun j => j = w.heap.size + 3) (getW w (.slice (some ⟨g, o, none⟩) n c) P K) eg (fun j hj => by have e' : j = w.heap.size + 3 := hj; simp; omega) (fun w' => GB w (.slice (some ⟨g, o, none⟩) n c) P K w.heap.size ((beN (pieceOf l P K) : Nat) : Int) w') ?_ ?_).mono fun e w' h => ⟨h.1, h.2.2⟩
      · intro w1 w2 h hch
        exact h.ch hch (by simp only [World.size_alloc]; omega) (by simp only [World.size_alloc]; omega)
      · exact hok
end Go.Proofs.YtgddfclclibcgaaDoor.pk
