/-
  packet.Set, whole.
-/
import Derived.Test.YtgddfclclibcgaaDoorPkF
namespace Go.Proofs.YtgddfclclibcgaaDoor.pk
open Go.RowKit Go.Shelf Go.Proofs.YtgddfclclibcgaaDoor.mem Go.Proofs.YtgddfclclibcgaaDoor.kit Go.Proofs.YtgddfclclibcgaaDoor.rng
set_option linter.unusedVariables false

abbrev setW (w : World) (A : Value) (p k : Int) (v : Int) : World := (((w.alloc (.cells #[A] 22)).alloc (.cells #[.int .i64 p] 2)).alloc (.cells #[.int .i64 k] 3)).alloc (.cells #[.int .u64 v] 27)
theorem sb_start (w : World) (A : Value) (p k v : Int) : GB w A p k w.heap.size v (setW w A p k v) := by
  have n1 := alloc_new w (.cells #[A] 22)
  have n2 := alloc_new (w.alloc (.cells #[A] 22)) (.cells #[.int .i64 p] 2)
  have n3 := alloc_new ((w.alloc (.cells #[A] 22)).alloc (.cells #[.int .i64 p] 2)) (.cells #[.int .i64 k] 3)
  have n4 := alloc_new (((w.alloc (.cells #[A] 22)).alloc (.cells #[.int .i64 p] 2)).alloc (.cells #[.int .i64 k] 3)) (.cells #[.int .u64 v] 27)
  have h1 := Blk.new w 22 #[A]
  have h2 := Blk.new (w.alloc (.cells #[A] 22)) 2 #[.int .i64 p]
  have h3 := Blk.new ((w.alloc (.cells #[A] 22)).alloc (.cells #[.int .i64 p] 2)) 3 #[.int .i64 k]
  have h4 := Blk.new (((w.alloc (.cells #[A] 22)).alloc (.cells #[.int .i64 p] 2)).alloc (.cells #[.int .i64 k] 3)) 27 #[.int .u64 v]
  simp only [World.size_alloc] at h2 h3 h4
  exact ⟨New.then n1 (New.then n2 (New.then n3 n4)), Nat.le_refl _, ((h1.alloc _).alloc _).alloc _, (h2.alloc _).alloc _, h3.alloc _, h4⟩

set_option maxRecDepth 100000 in
set_option maxHeartbeats 1000000 in
theorem set_box (A : Option Addr) (n c : Nat) (p k x v : Int) (w : World) (R : World → Prop) (hc : Calls Tryd.prog 20 #[.func (.func 21) #[] #[.pointer (some ⟨w.heap.size, 0, none⟩), .pointer (some ⟨w.heap.size + 1, 0, none⟩), .pointer (some ⟨w.heap.size + 2, 0, none⟩), .pointer (some ⟨w.heap.size + 3, 0, none⟩)]] (setW w (.slice A n c) p k v) fun e w' => e = .returned (.int .i64 x) ∧ R w') :
    Calls Tryd.prog 13 #[.slice A n c, .int .i64 p, .int .i64 k, .int .u64 v] w fun e w' => e = .returned (.int .i64 x) ∧ R w' := by
  have hmf : ∀ (fn : Fn) (first cap : Array Value) (w : World), (Instr.makeFunc fn first cap).run Tryd.prog w = .ok (.func fn first cap) w := fun _ _ _ _ => rfl
  have HC := Lib.hid hc
  clear hc
  go_enter Tryd.func13, Tryd.ntmps13
  go_wp2_with (go_at_call 20; (with_reducible refine HC.out.mono ?_); rintro e w1 ⟨rfl, hr⟩; have HR := Lib.hid hr; clear hr)
  go_ret
  exact ⟨rfl, HR.out⟩

/-- Set: the number is put there, or it is an error, and nothing is changed. -/
theorem set_any (g m n c : Nat) (p k : Int) (v : Nat) (L : List UInt8) (w : World) (hT : SzT w) (hB : Bq w g m L) (hn : n ≤ L.length) (hc : n ≤ c) (hcm : c ≤ maxLen) (hv : v < 18446744073709551616) :
    Calls Tryd.prog 13 #[.slice (some ⟨g, 0, none⟩) n c, .int .i64 p, .int .i64 k, .int .u64 (v : Int)] w fun e w' => e = .returned (.int .i64 (errM n p k)) ∧ Bq w' g m (setN n L p k v) ∧ Ch (fun j => j = g) w w' := by
  have hg := sb_start w (.slice (some ⟨g, 0, none⟩) n c) p k v
  have hgl := hB.lt
  have hT5 : SzT (errC (setW w (.slice (some ⟨g, 0, none⟩) n c) p k v)) := (hT.new hg.new).new (alloc_new _ _)
  have hg5 := hg.keep (alloc_new _ (.cells #[.int .i64 0] 32))
  have eg := enters_of Tryd.func21 (by kernel_rfl) rfl
  have hfault : ∀ x, Calls Tryd.prog 21 #[.pointer (some ⟨w.heap.size, 0, none⟩), .pointer (some ⟨w.heap.size + 1, 0, none⟩), .pointer (some ⟨w.heap.size + 2, 0, none⟩), .pointer (some ⟨w.heap.size + 3, 0, none⟩)] (errC (setW w (.slice (some ⟨g, 0, none⟩) n c) p k v)) (Fault (errC (setW w (.slice (some ⟨g, 0, none⟩) n c) p k v)) x) → errM n p k = x → x ≠ 0 →
      Calls Tryd.prog 13 #[.slice (some ⟨g, 0, none⟩) n c, .int .i64 p, .int .i64 k, .int .u64 (v : Int)] w fun e w' => e = .returned (.int .i64 (errM n p k)) ∧ Bq w' g m (setN n L p k v) ∧ Ch (fun j => j = g) w w' := by
    intro x hf he hx
    have e0 : setN n L p k v = L := by unfold setN; rw [if_neg (by rw [he]; exact hx)]
    rw [he, e0]
    refine set_box _ n c p k x v w (fun w' => Bq w' g m L ∧ Ch (fun j => j = g) w w') ((caught_fault _ _ x _ eg hf).mono fun e w' h => ⟨h.1, ?_, ?_⟩)
    · exact hB.new (New.then hg.new h.2)
    · exact Ch.of_new (New.then hg.new h.2)
  by_cases hz : isz k = false
  · exact hfault 2 (set_arg w _ _ n c p k v w.heap.size hg5 hT5 hz) (by unfold errM; rw [if_pos hz]) (by decide)
  · have hz' : isz k = true := by simpa using hz
    have hnm : n ≤ maxLen := Nat.le_trans hc hcm
    by_cases hp : p < 0 ∨ (n : Int) - k < p
    · exact hfault 112 (set_bounds w _ _ n c p k v w.heap.size hg5 hT5 hz' hnm hp) (by unfold errM; rw [if_neg hz, if_pos hp]) (by decide)
    · have hkr := isz_rng hz'
      obtain ⟨P, rfl⟩ : ∃ P : Nat, p = (P : Int) := ⟨p.toNat, by omega⟩
      obtain ⟨K, rfl⟩ : ∃ K : Nat, k = (K : Int) := ⟨k.toNat, by omega⟩
      have hPK : P + K ≤ n := by omega
      have he : errM n (P : Int) (K : Int) = 0 := errM_ok hz' (by omega) (by omega)
      have e1 : setN n L (P : Int) (K : Int) v = putN L P K v K := by unfold setN; rw [if_pos he]; simp
      rw [he, e1]
      have hss : SS w (errC (setW w (.slice (some ⟨g, 0, none⟩) n c) P K v)) (.slice (some ⟨g, 0, none⟩) n c) P K v w.heap.size g m L (errC (setW w (.slice (some ⟨g, 0, none⟩) n c) P K v)) :=
        ⟨Ch.of_new hg5.new, hgl, Nat.le_refl _, hg5.b0, hg5.b1, hg5.b2, hg5.b3, hB.new hg5.new, Ch.refl _ _, hg5.new.size⟩
      have hok := set_ok w (errC (setW w (.slice (some ⟨g, 0, none⟩) n c) P K v)) g m n c P K v w.heap.size L hss hn hT5 hz' hc hcm hPK hv
      refine set_box _ n c P K 0 v w (fun w' => Bq w' g m (putN L P K v K) ∧ Ch (fun j => j = g) w w') ?_
      refine (caught_ok _ _ (fun j => j = g) (setW w (.slice (some ⟨g, 0, none⟩) n c) P K v) eg (fun j hj => by have e' : j = g := hj; simp; omega) (fun w' => Bq w' g m (putN L P K v K)) ?_ ?_).mono fun e w' h => ⟨h.1, h.2.2, ?_⟩
      · intro w1 w2 h hch
        exact h.ch hch (fun e => by have e' : g = (setW w (.slice (some ⟨g, 0, none⟩) n c) P K v).heap.size := e; simp at e'; omega)
      · exact hok.mono fun e w' h => ⟨h.1, h.2.cc, h.2.d⟩
      · exact (Ch.of_new (S := fun j => j = g) hg.new).then h.2.1 (fun _ _ e => e)
end Go.Proofs.YtgddfclclibcgaaDoor.pk
