/-
  mac: a key's block; the block under a number.
-/
import Derived.Test.YtnmjgbkifglleaaDoorMacM
namespace Go.Proofs.YtnmjgbkifglleaaDoor.sha
open Go.RowKit Go.Proofs.YtnmjgbkifglleaaDoor.mem Go.Proofs.YtnmjgbkifglleaaDoor.kit
set_option linter.unusedVariables false
abbrev zz : Array Value := #[.int .u8 0, .int .u8 0, .int .u8 0, .int .u8 0, .int .u8 0, .int .u8 0, .int .u8 0, .int .u8 0, .int .u8 0, .int .u8 0, .int .u8 0, .int .u8 0, .int .u8 0, .int .u8 0, .int .u8 0, .int .u8 0, .int .u8 0, .int .u8 0, .int .u8 0, .int .u8 0, .int .u8 0, .int .u8 0, .int .u8 0, .int .u8 0, .int .u8 0, .int .u8 0, .int .u8 0, .int .u8 0, .int .u8 0, .int .u8 0, .int .u8 0, .int .u8 0, .int .u8 0, .int .u8 0, .int .u8 0, .int .u8 0, .int .u8 0, .int .u8 0, .int .u8 0, .int .u8 0, .int .u8 0, .int .u8 0, .int .u8 0, .int .u8 0, .int .u8 0, .int .u8 0, .int .u8 0, .int .u8 0, .int .u8 0, .int .u8 0, .int .u8 0, .int .u8 0, .int .u8 0, .int .u8 0, .int .u8 0, .int .u8 0, .int .u8 0, .int .u8 0, .int .u8 0, .int .u8 0, .int .u8 0, .int .u8 0, .int .u8 0, .int .u8 0]
theorem zz_list : zz.toList = vb (List.replicate 64 0) := by kernel_rfl
theorem copy_inT {W : World} {g : Nat} {Z : Array Value} {t : TypeId} (sz : Nat) (hg : Blk W g t Z) (hz : Z.size = sz) (A : Option Addr) (m c : Nat) (xs : List Value) (hx : xs.length = m) (hm : m ≤ sz) (h1 : ∀ v ∈ xs, v.oneCell' = true) (hA : 0 < m → ∃ ad, A = some ad ∧ ∀ j v, xs[j]? = some v → W.cell? (ad.add j) = some v) (ty : TypeId) :
    ∃ W2, (Builtin.copy_ #[22, 22] ty #[.slice (some ⟨g, 0, none⟩) sz sz, .slice A m c]).run Tryd.prog W = .ok (.int .i64 (m : Int)) W2 ∧ Blk W2 g t (splice Z.toList 0 xs).toArray ∧ ∀ B a, Below B a W → B ≤ g → Below B a W2 := by
  by_cases h0 : m = 0
  · subst h0
    obtain rfl : xs = [] := List.eq_nil_of_length_eq_zero hx
    refine ⟨W, run_copy_none (P := Tryd.prog) W 22 22 ty 5 _ A sz sz 0 c Tryd.underlying22 byte_one (by simp), ?_, fun B a h _ => h⟩
    simpa [splice] using hg
  · obtain ⟨ad, rfl, hc⟩ := hA (by omega)
    have hr := run_copy_row (P := Tryd.prog) W 22 22 ty 5 g 0 sz sz ad m c Z t xs Tryd.underlying22 byte_one hg (by rw [hx]; exact (Nat.min_eq_left hm).symm) hc (by rw [hx, hz]; omega) h1
    rw [hx] at hr
    refine ⟨_, hr, ?_, fun B a h hB => below_setRow h hB _⟩
    have h3 := Blk.row hg (Z.toList.take 0 ++ xs ++ Z.toList.drop (0 + m)).toArray
    simpa [splice, hx] using h3
theorem splice_rep (N : Nat) (k : List UInt8) (h : k.length ≤ N) : splice (vb (List.replicate N 0)) 0 (vb k) = vb (k ++ List.replicate (N - k.length) 0) := by
  rw [splice, vb_append, vb_length]
  simp [vb]
theorem splice_zz (k : List UInt8) (h : k.length ≤ 64) : splice zz.toList 0 (vb k) = vb (k ++ List.replicate (64 - k.length) 0) := by
  rw [zz_list]
  exact splice_rep 64 k h
theorem info_blk : (Tryd.prog.info? 48).map (·.size) = some 64 := by kernel_rfl
/-- What is copied into a new block. -/
theorem copied_blk (W : World) (A : Option Addr) (m c : Nat) (key k : List UInt8) (hk : keyOf key = k) (hm : m = k.length) (hA : Reads W W.heap.size 1 A m (vb k)) (ty : TypeId) :
    ∃ W2, (Builtin.copy_ #[22, 22] ty #[.slice (some ⟨W.heap.size, 0, none⟩) 64 64, .slice A m c]).run Tryd.prog (W.alloc (.cells zz 48)) = .ok (.int .i64 (m : Int)) W2 ∧ Blk W2 W.heap.size 48 (vb (blk key)).toArray ∧ New W W2 := by
  have hk64 : k.length ≤ 64 := by rw [← hk]; exact keyOf_le key
  have hA1 := hA.new (alloc_new W (.cells zz 48))
  obtain ⟨W2, h1, h2, h3⟩ := copy_inT (t := 48) 64 (Blk.new W 48 zz) rfl A m c (vb k) (by rw [vb_length, hm]) (by omega) (vb_one k) (fun h0 => copy_src hA1 h0) ty
  refine ⟨W2, h1, ?_, h3 _ _ (alloc_new W _) (Nat.le_refl _)⟩
  rw [splice_zz k hk64] at h2
  unfold blk
  rw [hk]
  exact h2

set_option maxRecDepth 100000 in
set_option maxHeartbeats 4000000 in
theorem blockOf_short (A : Option Addr) (n c : Nat) (l : List UInt8) (w : World) (hn : n = l.length) (h64 : n ≤ 64) (hA : Reads w w.heap.size 1 A n (vb l)) :
    Calls Tryd.prog 30 #[.slice A n c] w fun e w' => e = .returned (.agg (vb (blk l)).toArray) ∧ New w w' := by
  have h64i : ¬ (64 : Int) < (n : Int) := by omega
  obtain ⟨w2, hcp, hb2, hn2⟩ := copied_blk (w.alloc (.cells zz 48)) A n c l l (by unfold keyOf; rw [if_neg (by omega)]) hn (hA.new (alloc_new w _)) 3
  rw [show (w.alloc (.cells zz 48)).heap.size = w.heap.size + 1 by simp] at hcp hb2
  have h0 : Blk w2 w.heap.size 48 zz := (Blk.new w 48 zz).below hn2 (by simp)
  have hn3 : New w w2 := New.then (alloc_new w _) hn2
  obtain ⟨cs, hcs⟩ : ∃ cs, (vb (blk l)).toArray = cs := ⟨_, rfl⟩
  have hsz : cs.size = 64 := by rw [← hcs]; simp [vb_length, blk_length]
  have h1 : cs.all (·.oneCell') = true := by
    rw [← hcs, Array.all_eq_true_iff_forall_mem]
    intro x hx
    exact vb_one (blk l) x (by simpa using hx)
  rw [hcs] at hb2 ⊢
  have HB := Lib.hid hb2
  have H0 := Lib.hid h0
  have HN := Lib.hid hn3
  have HI : Hid ((Tryd.prog.info? 48).map (·.size) = some cs.size) := Lib.hid (by rw [hsz]; exact info_blk)
  have HO : Hid (zz.size = cs.size) := Lib.hid (by rw [hsz]; rfl)
  have H1 := Lib.hid h1
  clear hb2 h0 hn3 hn2 hcs hsz h1 hA hn h64
  go_enter Tryd.func30, Tryd.ntmps30
  go_wp2_with (first
    | (refine wpList_load_row rfl 48 _ rfl (w.heap.size + 1) rfl 48 cs (0, 0) _ HB.out Tryd.underlying48 rfl HI.out ?_)
    | (refine wpList_store_row rfl 48 _ _ rfl w.heap.size cs rfl rfl 48 _ H0.out HI.out HO.out H1.out ?_)
    | fail)
  refine bodyPost_ret (results_cell_row rfl _ _ w.heap.size 48 _ (0, 0) _ rfl (setRow_heap _ _ _ _ _ _ H0.out) Tryd.underlying48 rfl HI.out) rfl ?_
  exact ⟨rfl, below_setRow HN.out (Nat.le_refl _) _⟩

set_option maxRecDepth 100000 in
set_option maxHeartbeats 4000000 in
theorem blockOf_long (A : Option Addr) (n c : Nat) (l : List UInt8) (w : World) (hg : GAt w) (hn : n = l.length) (h64 : 64 < n) (hl : n ≤ 1099511627776) (hc : n ≤ c ∧ c ≤ maxLen) (hA : Reads w w.heap.size 1 A n (vb l)) :
    Calls Tryd.prog 30 #[.slice A n c] w fun e w' => e = .returned (.agg (vb (blk l)).toArray) ∧ New w w' := by
  have h64i : (64 : Int) < (n : Int) := by omega
  obtain ⟨cs, hcs⟩ : ∃ cs, (vb (blk l)).toArray = cs := ⟨_, rfl⟩
  have hsz : cs.size = 64 := by rw [← hcs]; simp [vb_length, blk_length]
  have h1 : cs.all (·.oneCell') = true := by
    rw [← hcs, Array.all_eq_true_iff_forall_mem]
    intro x hx
    exact vb_one (blk l) x (by simpa using hx)
  have HI : Hid ((Tryd.prog.info? 48).map (·.size) = some cs.size) := Lib.hid (by rw [hsz]; exact info_blk)
  have HO : Hid (zz.size = cs.size) := Lib.hid (by rw [hsz]; rfl)
  have H1 := Lib.hid h1
  have HZ := Lib.hid (alloc_new w (.cells zz 48))
  have HSX : Hid (Calls Tryd.prog 11 #[.slice A n c] (w.alloc (.cells zz 48)) fun e w' => ∃ A4 c4, e = .returned (.slice A4 32 c4) ∧ (∃ w5, (Builtin.copy_ #[22, 22] 3 #[.slice (some ⟨w'.heap.size, 0, none⟩) 64 64, .slice A4 32 c4]).run Tryd.prog (w'.alloc (.cells zz 48)) = .ok (.int .i64 32) w5 ∧ Blk w5 w'.heap.size 48 cs ∧ Blk w5 w.heap.size 48 zz ∧ New w w5)) := Lib.hid (by
    refine (sum_any A n c l (w.alloc (.cells zz 48)) hn hl hc (hg.new HZ.out).s (hg.new HZ.out).k (hA.new HZ.out)).mono fun e w' k => ?_
    obtain ⟨A4, c4, he, ho, hn4⟩ := k.at32 (D := sum l) rfl (sum_length _)
    obtain ⟨w5, hcp, hb5, hn5⟩ := copied_blk w' A4 32 c4 l (sum l) (by unfold keyOf; rw [if_pos (by omega)]) (sum_length _).symm (Reads.of_own ho) 3
    rw [hcs] at hb5
    refine ⟨A4, c4, he, w5, hcp, hb5, ?_, New.then (New.then HZ.out hn4) hn5⟩
    exact ((Blk.new w 48 zz).below hn4 (by simp)).below hn5 (by have := hn4.size; simp at this; omega))
  clear hA hc hg hsz h1 hn
  rw [hcs]
  clear hcs
  go_enter Tryd.func30, Tryd.ntmps30
  go_wp2_with (first
    | (go_at_call 11; (with_reducible refine HSX.out.mono ?_); rintro e w4 ⟨A4, c4, rfl, w5, hcp, hb5, h05, hn5⟩; have HB := Lib.hid hb5; have H0 := Lib.hid h05; have HN := Lib.hid hn5; clear hb5 h05 hn5)
    | (refine wpList_load_row rfl 48 _ rfl w4.heap.size rfl 48 cs (0, 0) _ HB.out Tryd.underlying48 rfl HI.out ?_)
    | (refine wpList_store_row rfl 48 _ _ rfl w.heap.size cs rfl rfl 48 _ H0.out HI.out HO.out H1.out ?_)
    | fail)
  refine bodyPost_ret (results_cell_row rfl _ _ w.heap.size 48 _ (0, 0) _ rfl (setRow_heap _ _ _ _ _ _ H0.out) Tryd.underlying48 rfl HI.out) rfl ?_
  exact ⟨rfl, below_setRow HN.out (Nat.le_refl _) _⟩
theorem blockOf_any (A : Option Addr) (n c : Nat) (l : List UInt8) (w : World) (hg : GAt w) (hn : n = l.length) (hl : n ≤ 1099511627776) (hc : n ≤ c ∧ c ≤ maxLen) (hA : Reads w w.heap.size 1 A n (vb l)) :
    Calls Tryd.prog 30 #[.slice A n c] w fun e w' => e = .returned (.agg (vb (blk l)).toArray) ∧ New w w' := by
  by_cases h : n ≤ 64
  · exact blockOf_short A n c l w hn h hA
  · exact blockOf_long A n c l w hg hn (by omega) hl hc hA

/-- A block that is turned, byte by byte. -/
def Bt (W : World) (g : Nat) (X : List UInt8) : Prop := Blk W g 48 (vb X).toArray
theorem Bt.set {W : World} {g : Nat} {X : List UInt8} (h : Bt W g X) (i : Nat) (b : UInt8) : Bt (W.setCell ⟨g, i, none⟩ (.int .u8 (b.toNat : Int))) g (X.set i b) := by
  have h2 := Blk.set_ h i (.int .u8 (b.toNat : Int))
  have e : (vb X).toArray.setIfInBounds i (.int .u8 (b.toNat : Int)) = (vb (X.set i b)).toArray := by simp [vb, List.map_set]
  rw [e] at h2
  exact h2
theorem Bt.at_ {W : World} {g i : Nat} {X : List UInt8} {b : UInt8} (h : Bt W g X) (hi : X[i]? = some b) : W.cell? ⟨g, i, none⟩ = some (.int .u8 (b.toNat : Int)) := by
  obtain ⟨hl, rfl⟩ := List.getElem?_eq_some_iff.1 hi
  exact (Blk.cell h i).trans (by simpa using vb_get X i hl)
theorem Bt.reads {W : World} {g n : Nat} {X : List UInt8} (h : Bt W g X) (hn : n = X.length) : Reads W W.heap.size 1 (some ⟨g, 0, none⟩) n (vb X) := by
  subst hn
  refine ⟨by rw [vb_length, Nat.mul_one], fun _ => ⟨_, rfl, Blk.lt h, fun j u hu => ?_⟩⟩
  rw [Addr.add_lit, Nat.zero_add, Blk.cell h j]
  simpa using hu
def half (B : List UInt8) (n : UInt8) (k : Nat) : List UInt8 := (undr B n).take k ++ B.drop k
theorem half_at (B : List UInt8) (n : UInt8) (k : Nat) (h : k < B.length) : (half B n k)[k]? = some B[k] ∧ (half B n k).set k (B[k] ^^^ n) = half B n (k + 1) := by
  have hl : ((undr B n).take k).length = k := by rw [List.length_take, undr_length]; omega
  have hd : B.drop k = B[k] :: B.drop (k + 1) := List.drop_eq_getElem_cons h
  have ht : (undr B n).take (k + 1) = (undr B n).take k ++ [B[k] ^^^ n] := by
    rw [List.take_succ_eq_append_getElem (by rw [undr_length]; exact h)]
    simp [undr]
  refine ⟨?_, ?_⟩
  · unfold half
    rw [List.getElem?_append_right (by omega), hl, Nat.sub_self, hd]
    rfl
  · unfold half
    rw [List.set_append_right _ _ (by omega), hl, Nat.sub_self, hd, List.set_cons_zero, ht, List.append_assoc]
    rfl
set_option maxRecDepth 100000 in
set_option maxHeartbeats 4000000 in
theorem under1 (n : UInt8) (gb : Nat) (B : List UInt8) (w : World) (hB : B.length = 64) (h : Bt w gb B) :
    Calls Tryd.prog 42 #[.int .u8 (n.toNat : Int), .pointer (some ⟨gb, 0, none⟩)] w fun e w' => e = .returned (.slice (some ⟨w.heap.size, 0, none⟩) 64 64) ∧ Reads w' w'.heap.size 1 (some ⟨w.heap.size, 0, none⟩) 64 (vb (undr B n)) ∧ New w w' := by
  obtain ⟨cs, hcs⟩ : ∃ cs, (vb B).toArray = cs := ⟨_, rfl⟩
  have hsz : cs.size = 64 := by rw [← hcs]; simp [vb_length, hB]
  have h1 : cs.all (·.oneCell') = true := by
    rw [← hcs, Array.all_eq_true_iff_forall_mem]
    intro x hx
    exact vb_one B x (by simpa using hx)
  have HI : Hid ((Tryd.prog.info? 48).map (·.size) = some cs.size) := Lib.hid (by rw [hsz]; exact info_blk)
  have HO : Hid (zz.size = cs.size) := Lib.hid (by rw [hsz]; rfl)
  have H1 := Lib.hid h1
  have HB := Lib.hid hB
  have HL : Hid (w.heap[gb]? = some (.cells cs 48 (0, 0))) := Lib.hid (by rw [← hcs]; exact h)
  have HZ : Hid (Blk (w.alloc (.cells zz 48)) w.heap.size 48 zz) := Lib.hid (Blk.new w _ _)
  have HB0 : Hid (Bt ((w.alloc (.cells zz 48)).setRow w.heap.size cs) w.heap.size (half B n 0)) := Lib.hid (by
    have h2 := (Blk.new w 48 zz).row cs
    rw [← hcs] at h2 ⊢
    simpa [half, Bt] using h2)
  have HN0 : Hid (New w ((w.alloc (.cells zz 48)).setRow w.heap.size cs)) := Lib.hid (below_setRow (alloc_new w _) (Nat.le_refl _) _)
  clear hsz h1 hcs h hB
  go_enter Tryd.func42, Tryd.ntmps42
  go_wp2_with (first
    | (refine wpList_load_row rfl 48 _ rfl gb rfl 48 cs (0, 0) _ HL.out Tryd.underlying48 rfl HI.out ?_)
    | (refine wpList_store_row rfl 48 _ _ rfl w.heap.size cs rfl rfl 48 _ HZ.out HI.out HO.out H1.out ?_)
    | fail)
  go_loopw [5, 7] (fun _ vi wr => ∃ k : Nat, k ≤ 64 ∧ vi = .int .i64 (k : Int) ∧ Hid (Bt wr w.heap.size (half B n k) ∧ New w wr)) (fun _ vi _ => 64 - (intOf vi).toNat)
  case atStart => exact ⟨0, Nat.zero_le _, rfl, Lib.hid ⟨HB0.out, HN0.out⟩⟩
  case round =>
    clear HB0 HN0 HZ HL
    obtain ⟨k, hk, rfl, HJ⟩ := hrel
    by_cases hlt : k < 64
    · have hki : (k : Int) < 64 := by omega
      obtain ⟨hx, hs⟩ := half_at B n k (by rw [HB.out]; exact hlt)
      obtain ⟨b, hb⟩ : ∃ b, B[k]'(by rw [HB.out]; exact hlt) = b := ⟨_, rfl⟩
      rw [hb] at hx hs
      have c0 := HJ.out.1.at_ hx
      have c1 := Blk.frozen HJ.out.1 k
      have HSET := Lib.hid hs
      have hxor : bits BinOp.xor IntKind.u8 (b.toNat : Int) (n.toNat : Int) = ((b ^^^ n).toNat : Int) := by rw [xor_u8]; exact u8_xor_nat _ _ b.toNat_lt n.toNat_lt
      clear hx hs hb
      go_wp2_with fail
      go_roundw
      case rel => exact ⟨k + 1, by omega, by go_num, Lib.hid ⟨by rw [← HSET.out]; have hs := HJ.out.1.set k (b ^^^ n); rw [xor_u8] at hs; exact hs, HJ.out.2.setCell (Nat.le_refl _) _⟩⟩
      case measure => simp [intOf]; omega
    · obtain rfl : k = 64 := by omega
      go_wp2_with fail
      go_ret
      have hb := HJ.out.1
      have e : half B n 64 = undr B n := by
        unfold half
        rw [List.drop_eq_nil_of_le (by rw [HB.out]; omega), List.append_nil, List.take_of_length_le (by rw [undr_length, HB.out]; omega)]
      rw [e] at hb
      exact ⟨rfl, hb.reads (by rw [undr_length, HB.out]), HJ.out.2⟩
end Go.Proofs.YtnmjgbkifglleaaDoor.sha
