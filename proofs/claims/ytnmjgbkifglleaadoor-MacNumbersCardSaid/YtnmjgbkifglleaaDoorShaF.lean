/-
  Contracts: a state's bytes; sha.Sum.
-/
import Derived.Test.YtnmjgbkifglleaaDoorShaE
namespace Go.Proofs.YtnmjgbkifglleaaDoor.sha
open Go.RowKit Go.Proofs.YtnmjgbkifglleaaDoor.mem
set_option linter.unusedVariables false

/-- Bytes that were made: a row of the call's own. -/
def Dig (w : World) (l : List UInt8) (e : Ending) (w' : World) : Prop := ∃ A c, e = .returned (.slice A l.length c) ∧ w'.ownsRow w.heap.size 5 1 (.slice A l.length c) l.length (vb l) ∧ New w w'
theorem be4_cells (n : Nat) (hn : n < 4294967296) : [Value.int .u8 ((n : Int) / 16777216), .int .u8 ((n : Int) / 65536 % 256), .int .u8 ((n : Int) / 256 % 256), .int .u8 ((n : Int) % 256)] = vb (be4 n) := by
  have h : ∀ k : Nat, ((UInt8.ofNat k).toNat : Int) = ((k % 256 : Nat) : Int) := fun k => by rw [UInt8.toNat_ofNat']
  unfold vb be4
  simp only [List.map_cons, List.map_nil, h]
  congr 1
  · congr 1; omega
theorem reads_four (W : World) (t : TypeId) (a b c d : Value) : Reads (W.alloc (.cells #[a, b, c, d] t)) (W.alloc (.cells #[a, b, c, d] t)).heap.size 1 (some ⟨W.heap.size, 0, none⟩) 4 [a, b, c, d] := by
  refine ⟨rfl, fun _ => ⟨_, rfl, by simp, fun j u hu => ?_⟩⟩
  rw [Addr.add_lit, Nat.zero_add, (Blk.new W t #[a, b, c, d]).cell j]
  simpa using hu
def someB (s : St) (k : Nat) : List UInt8 := ((s.list.take k).map be4).flatten
theorem someB_succ (s : St) (k : Nat) (h : k < s.list.length) : someB s (k + 1) = someB s k ++ be4 s.list[k] := by
  unfold someB
  rw [← List.take_append_getElem h, List.map_append, List.flatten_append]
  simp
theorem someB_length (s : St) : ∀ k, k ≤ 8 → (someB s k).length = 4 * k
  | 0, _ => rfl
  | k + 1, h => by
    have h8 : k < s.list.length := h
    rw [someB_succ s k h8, List.length_append, someB_length s k (by omega)]
    show 4 * k + 4 = _
    omega
theorem list_lt (s : St) (hs : s.Ok) (k : Nat) (h : k < s.list.length) : s.list[k] < 4294967296 := by
  obtain ⟨h0, h1, h2, h3, h4, h5, h6, h7⟩ := hs
  match k, h with
  | 0, _ => exact h0
  | 1, _ => exact h1
  | 2, _ => exact h2
  | 3, _ => exact h3
  | 4, _ => exact h4
  | 5, _ => exact h5
  | 6, _ => exact h6
  | 7, _ => exact h7
  | k + 8, h => exact absurd h (by simp [St.list])

theorem own_above {W : World} {base n size : Nat} {e : TypeId} {v : Value} {xs : List Value} (h : W.ownsRow base e size v n xs) {j : Nat} (hj : v.ownBlock = some j) : base ≤ j := by
  rcases h.2 with ⟨rfl, _⟩ | ⟨g, cap, cur, rfl, hb, _⟩
  · cases hj
  · simp [Value.ownBlock] at hj
    omega
theorem alloc_new (w : World) (o : Obj) : New w (w.alloc o) := (new_refl w).alloc (Nat.le_refl _) o

set_option maxRecDepth 100000 in
set_option maxHeartbeats 4000000 in
theorem bytesOf_any (s : St) (w : World) (hs : s.Ok) : Calls Tryd.prog 25 #[.agg (c8 s)] w (Dig w s.bytes) := by
  obtain ⟨i0, hi, hz0, hz1, hz2⟩ := info_parts byte_inf
  have hmk : ∀ W : World, (Instr.makeSlice 22 (.int .i64 0) (.int .i64 32)).run Tryd.prog W = .ok (.slice (some ⟨W.heap.size, 0, none⟩) 0 32) (W.alloc (.cells (zrow 32) 5)) := fun W => make_bytes 0 32 (by omega) (by omega) W
  obtain ⟨Z, hZ⟩ : ∃ Z, zrow 32 = Z := ⟨_, rfl⟩
  have hZs : Z.size = 32 * 1 := by rw [← hZ]; simp [zrow, madeCells]
  rw [hZ] at hmk
  have H0 := Lib.hid (World.ownsRow_made (e := 5) (base := w.heap.size) (size := 1) (w.alloc (.cells (c8 s) 37)) Z 32 (by simp) (by unfold maxLen; omega) hZs)
  have HC : Hid (∀ o : Obj, Blk ((w.alloc (.cells (c8 s) 37)).alloc o) w.heap.size 37 (c8 s)) := Lib.hid (fun o => (Blk.new w _ _).alloc o)
  have HN0 : Hid (∀ o : Obj, New w ((w.alloc (.cells (c8 s) 37)).alloc o)) := Lib.hid (fun o => ((new_refl w).alloc (Nat.le_refl _) _).alloc (by simp) _)
  have HS := Lib.hid hs
  have HLEN : Hid (s.bytes.length = 32) := Lib.hid (bytes_length s)
  clear hZ hZs hs
  go_enter Tryd.func25, Tryd.ntmps25
  go_wp2_with (first
    | (refine wpList_load_row rfl 37 _ rfl w.heap.size rfl 37 (c8 s) (0, 0) _ (HC.out _) Tryd.underlying37 rfl info8 ?_))
  go_loopw [3, 5, 8] (fun v _ i wr => ∃ k : Nat, k ≤ 8 ∧ i = .int .i64 k ∧ wr.ownsRow w.heap.size 5 1 v (4 * k) (vb (someB s k)) ∧ New w wr) (fun _ _ i _ => 8 - (intOf i).toNat)
  case atStart =>
    refine ⟨0, Nat.zero_le _, rfl, ?_, HN0.out _⟩
    have h := H0.out
    simpa [someB, vb] using h
  case round =>
    clear hmk H0 HC HN0
    obtain ⟨k, hk, rfl, ho, hn⟩ := hrel
    have HO := Lib.hid ho
    have HN := Lib.hid hn
    clear ho hn
    by_cases hlt : k < 8
    · have hlt' : (k : Int) < 8 := by omega
      have hsl : k < s.list.length := hlt
      have hidx := index_run Tryd.underlying37 (c8 s) k _ hlt (c8_at s k hsl)
      have HSU := Lib.hid (someB_succ s k hsl)
      have hxl := list_lt s HS.out k hsl
      generalize s.list[k] = x at *
      have hbb : New wr (wr.alloc (.cells #[.int .u8 ((x : Int) / 16777216), .int .u8 ((x : Int) / 65536 % 256), .int .u8 ((x : Int) / 256 % 256), .int .u8 ((x : Int) % 256)] 5)) := alloc_new wr _
      have HBB := Lib.hid hbb
      have HB4 := Lib.hid (be4_cells x hxl)
      have hb1 : 4 * k + 4 ≤ maxLen := by unfold maxLen; omega
      have hb2 : (4 * k + 4) * 1 ≤ 140737488355328 := by omega
      have HB1 := Lib.hid hb1
      have HB2 := Lib.hid hb2
      clear hbb hb1 hb2
      go_wp2_with
        (at_builtin; refine wpList_append_any _ rfl (.tmp 11) (.tmp 23) 22 rfl w.heap.size 5 i0 _ 1 1 Tryd.underlying22 hi hz0 hz1 hz2 rfl (by omega) _ (4 * k) (vb (someB s k)) rfl (own_new HO.out HBB.out) _ (some ⟨wr.heap.size, 0, none⟩) 4 4 [.int .u8 ((x : Int) / 16777216), .int .u8 ((x : Int) / 65536 % 256), .int .u8 ((x : Int) / 256 % 256), .int .u8 ((x : Int) % 256)] rfl (reads_four wr _ _ _ _ _) (by simp [Value.oneCell']) HB1.out HB2.out (Nat.le_trans HN.out.size HBB.out.size) ?_; intro v9 w9 hown9 hg9 hat9)
      have HN9 := Lib.hid ((New.then HN.out HBB.out).grown hg9 (Nat.le_trans HN.out.size HBB.out.size) (fun j hj => own_above HO.out hj))
      rw [HB4.out, ← vb_append, ← HSU.out] at hown9
      go_roundw
      case rel => exact ⟨k + 1, by omega, by go_num, by rw [show 4 * (k + 1) = 4 * k + 4 by omega]; exact hown9, HN9.out⟩
      case measure => simp [intOf]; omega
    · obtain rfl : k = 8 := by omega
      have ho := HO.out
      rw [show someB s 8 = s.bytes from rfl] at ho
      obtain ⟨A, c, rfl, -, -, hr⟩ := own_len ho
      have HO2 := Lib.hid ho
      clear ho HO hr
      go_wp2
      go_ret
      exact ⟨A, c, rfl, HO2.out, HN.out⟩

/-- What the package's first state holds. -/
def SAt (w : World) : Prop := ∀ (i : Nat) (h : i < start.list.length), w.cell? ⟨0, i, none⟩ = some (.int .u32 (start.list[i] : Int))
theorem SAt.lt {w : World} (h : SAt w) : 0 < w.heap.size := block_lt_of_cell (h 0 (by decide))
theorem SAt.new {w w' : World} (h : SAt w) (hn : New w w') : SAt w' := fun i hi => (hn.cell (p := ⟨0, i, none⟩) h.lt).trans (h i hi)
theorem start_lit : c8 start = #[.int .u32 1779033703, .int .u32 3144134277, .int .u32 1013904242, .int .u32 2773480762, .int .u32 1359893119, .int .u32 2600822924, .int .u32 528734635, .int .u32 1541459225] := rfl

theorem reads_take {W : World} {B n k : Nat} {A : Option Addr} {l : List UInt8} (h : Reads W B 1 A n (vb l)) (hk : k ≤ n) : Reads W B 1 A k (vb (l.take k)) := by
  have hl : (vb l).length = n := by have := h.1; rwa [Nat.mul_one] at this
  rw [vb_length] at hl
  refine ⟨by rw [vb_length, List.length_take]; omega, fun h0 => ?_⟩
  obtain ⟨ad, e, hb, hc⟩ := h.2 (by omega)
  refine ⟨ad, e, hb, fun j u hu => hc j u ?_⟩
  have hj : j < (l.take k).length := by
    have := (List.getElem?_eq_some_iff.1 hu).1
    rwa [vb_length] at this
  rw [vb_get _ j hj] at hu
  rw [vb_get l j (by rw [List.length_take] at hj; omega), ← hu]
  simp
theorem end_any (A : Option Addr) (m c n : Nat) (l : List UInt8) (w : World) (hm : m = l.length) (h64 : m < 64) (hn : n ≤ 1099511627776) (hA : Reads w w.heap.size 1 A m (vb l)) :
    Calls Tryd.prog 24 #[.slice A m c, .int .u64 n] w fun e w' => e = .returned (.slice (some ⟨w.heap.size, 0, none⟩) (pad l n).length (pad l n).length) ∧ Bf w' w.heap.size (pad l n) ∧ New w w' := by
  rw [pad_length l n (by omega)]
  by_cases h : m < 56
  · rw [if_pos (by omega)]
    exact end_64 A m c n l w hm h hn hA
  · rw [if_neg (by omega)]
    exact end_128 A m c n l w hm (by omega) hn hA

set_option maxRecDepth 100000 in
set_option maxHeartbeats 4000000 in
theorem sum_some (ad : Addr) (n c : Nat) (l : List UInt8) (w : World) (hn : n = l.length) (hl : n ≤ 1099511627776) (hc : n ≤ c ∧ c ≤ maxLen) (hS : SAt w) (hK : KAt w) (hA : Reads w w.heap.size 1 (some ad) n (vb l)) (hcq : c ≠ n - n % 64) :
    Calls Tryd.prog 11 #[.slice (some ad) n c] w (Dig w (sum l)) := by
  have sg0 : w.cell? ⟨0, 0, none⟩ = some (.int .u32 1779033703) := (hS 0 (by decide)).trans rfl
  have sg1 : w.cell? ⟨0, 1, none⟩ = some (.int .u32 3144134277) := (hS 1 (by decide)).trans rfl
  have sg2 : w.cell? ⟨0, 2, none⟩ = some (.int .u32 1013904242) := (hS 2 (by decide)).trans rfl
  have sg3 : w.cell? ⟨0, 3, none⟩ = some (.int .u32 2773480762) := (hS 3 (by decide)).trans rfl
  have sg4 : w.cell? ⟨0, 4, none⟩ = some (.int .u32 1359893119) := (hS 4 (by decide)).trans rfl
  have sg5 : w.cell? ⟨0, 5, none⟩ = some (.int .u32 2600822924) := (hS 5 (by decide)).trans rfl
  have sg6 : w.cell? ⟨0, 6, none⟩ = some (.int .u32 528734635) := (hS 6 (by decide)).trans rfl
  have sg7 : w.cell? ⟨0, 7, none⟩ = some (.int .u32 1541459225) := (hS 7 (by decide)).trans rfl
  obtain ⟨q, hq⟩ : ∃ q, n - n % 64 = q := ⟨_, rfl⟩
  have hqn : q ≤ n := by omega
  have hqi : (n : Int) - (n : Int) % 64 = (q : Int) := by omega
  have hqc : (q : Int) ≤ (c : Int) := by omega
  have hqc' : q ≤ c := by omega
  have hqn' : (q : Int) ≤ (n : Int) := by omega
  have hnc' : (n : Int) ≤ (c : Int) := by omega
  have hu64 : IntKind.u64.wrap (n : Int) = (n : Int) := IntWalk.u64_in _ ⟨by omega, by omega⟩
  have hsum : sum l = (blocks (blocks start (l.take q) (q / 64)) (pad (l.drop q) n) ((pad (l.drop q) n).length / 64)).bytes := by
    unfold sum
    rw [← hn, hq]
  obtain ⟨s1, hs1⟩ : ∃ x, blocks start (l.take q) (q / 64) = x := ⟨_, rfl⟩
  have hok1 : s1.Ok := by rw [← hs1]; exact blocks_ok _ _ start_ok _
  obtain ⟨pd, hpd⟩ : ∃ x, pad (l.drop q) n = x := ⟨_, rfl⟩
  obtain ⟨E, hE⟩ : ∃ x, pd.length = x := ⟨_, rfl⟩
  have hEb : E ≤ 128 := by
    rw [← hE, ← hpd, pad_length _ _ (by rw [List.length_drop]; omega)]
    split <;> omega
  rw [hs1, hpd, hE] at hsum
  obtain ⟨s2, hs2⟩ : ∃ x, blocks s1 pd (E / 64) = x := ⟨_, rfl⟩
  have hok2 : s2.Ok := by rw [← hs2]; exact blocks_ok _ _ hok1 _
  rw [hs2] at hsum
  have HBE : Hid (∀ W, New w W → Calls Tryd.prog 23 #[.agg (c8 start), .slice (some ad) q c] W fun e w' => e = .returned (.agg (c8 s1)) ∧ New W w') := Lib.hid (fun W hW => by
    have h := behind_any (some ad) q c start (l.take q) W (by rw [List.length_take]; omega) (by omega) ⟨by omega, hc.2⟩ start_ok (hK.new hW) (reads_take (hA.new hW) hqn)
    rwa [hs1] at h)
  have HEN : Hid (∀ W A2 c2, New w W → Reads W W.heap.size 1 A2 (n - q) (vb (l.drop q)) → Calls Tryd.prog 24 #[.slice A2 (n - q) c2, .int .u64 n] W fun e w' => e = .returned (.slice (some ⟨W.heap.size, 0, none⟩) E E) ∧ Bf w' W.heap.size pd ∧ New W w') := Lib.hid (fun W A2 c2 hW hr => by
    have h := end_any A2 (n - q) c2 n (l.drop q) W (by rw [List.length_drop]; omega) (by omega) hl hr
    rwa [hpd, hE] at h)
  have HB2 : Hid (∀ W g, New w W → Bf W g pd → Calls Tryd.prog 23 #[.agg (c8 s1), .slice (some ⟨g, 0, none⟩) E E] W fun e w' => e = .returned (.agg (c8 s2)) ∧ New W w') := Lib.hid (fun W g hW hb => by
    have hr := hb.reads
    rw [hE] at hr
    have h := behind_any (some ⟨g, 0, none⟩) E E s1 pd W hE.symm (by omega) ⟨Nat.le_refl _, by unfold maxLen; omega⟩ hok1 (hK.new hW) hr
    rwa [hs2] at h)
  have HBO : Hid (∀ W, New w W → Calls Tryd.prog 25 #[.agg (c8 s2)] W (Dig w (sum l))) := Lib.hid (fun W hW => (bytesOf_any s2 W hok2).mono fun e w' k => by
    obtain ⟨A, c, he, ho, hn⟩ := k
    rw [hsum]
    exact ⟨A, c, he, own_base ho hW.size, New.then hW hn⟩)
  have HDR : Hid (∀ W, New w W → Reads W W.heap.size 1 (some (ad.add q)) (n - q) (vb (l.drop q))) := Lib.hid (fun W hW => by
    have h := (hA.new hW).cut (k := q) (cap := c) hqn (by omega)
    rw [if_neg (by omega)] at h
    simpa [vb, ← List.map_drop] using h)
  have HST : c8 start = #[.int .u32 1779033703, .int .u32 3144134277, .int .u32 1013904242, .int .u32 2773480762, .int .u32 1359893119, .int .u32 2600822924, .int .u32 528734635, .int .u32 1541459225] := start_lit
  obtain ⟨a1, b1, c1, d1, e1, f1, g1, h1⟩ := s1
  obtain ⟨a2, b2, c2, d2, e2, f2, g2, h2⟩ := s2
  rw [HST] at HBE
  simp only [c8] at HBE HB2 HBO
  have HN := Lib.hid hn
  have HC := Lib.hid hc.2
  clear hS hK hA hn hc hq hs1 hs2 hpd hE hok1 hok2 hsum HST
  go_enter Tryd.func11, Tryd.ntmps11
  go_wp2
  obtain ⟨w1, hw1⟩ : ∃ x, w.alloc (.cells #[.int .u32 1779033703, .int .u32 3144134277, .int .u32 1013904242, .int .u32 2773480762, .int .u32 1359893119, .int .u32 2600822924, .int .u32 528734635, .int .u32 1541459225] 37) = x := ⟨_, rfl⟩
  rw [hw1]
  have HB1 : Hid (Blk w1 w.heap.size 37 #[.int .u32 1779033703, .int .u32 3144134277, .int .u32 1013904242, .int .u32 2773480762, .int .u32 1359893119, .int .u32 2600822924, .int .u32 528734635, .int .u32 1541459225]) := Lib.hid (by rw [← hw1]; exact Blk.new w _ _)
  have HN1 : Hid (New w w1) := Lib.hid (by rw [← hw1]; exact alloc_new w _)
  have f0w1 : w1.cell? ⟨w.heap.size, 0, none⟩ = some (.int .u32 1779033703) := (HB1.out.cell 0).trans rfl
  have f1w1 : w1.cell? ⟨w.heap.size, 1, none⟩ = some (.int .u32 3144134277) := (HB1.out.cell 1).trans rfl
  have f2w1 : w1.cell? ⟨w.heap.size, 2, none⟩ = some (.int .u32 1013904242) := (HB1.out.cell 2).trans rfl
  have f3w1 : w1.cell? ⟨w.heap.size, 3, none⟩ = some (.int .u32 2773480762) := (HB1.out.cell 3).trans rfl
  have f4w1 : w1.cell? ⟨w.heap.size, 4, none⟩ = some (.int .u32 1359893119) := (HB1.out.cell 4).trans rfl
  have f5w1 : w1.cell? ⟨w.heap.size, 5, none⟩ = some (.int .u32 2600822924) := (HB1.out.cell 5).trans rfl
  have f6w1 : w1.cell? ⟨w.heap.size, 6, none⟩ = some (.int .u32 528734635) := (HB1.out.cell 6).trans rfl
  have f7w1 : w1.cell? ⟨w.heap.size, 7, none⟩ = some (.int .u32 1541459225) := (HB1.out.cell 7).trans rfl
  clear hw1
  go_region_with (first
    | (go_at_call 23; (with_reducible refine (HBE.out w1.drew (Below.drew HN1.out)).mono ?_); rintro en w5 ⟨rfl, hn5⟩; have HN5 := Lib.hid (New.then (Below.drew HN1.out) hn5); have HB5 := Lib.hid (Blk.below (Blk.drew HB1.out) hn5 (Blk.drew HB1.out).lt); have f0w5 : w5.cell? ⟨w.heap.size, 0, none⟩ = some (.int .u32 1779033703) := (HB5.out.cell 0).trans rfl; have f1w5 : w5.cell? ⟨w.heap.size, 1, none⟩ = some (.int .u32 3144134277) := (HB5.out.cell 1).trans rfl; have f2w5 : w5.cell? ⟨w.heap.size, 2, none⟩ = some (.int .u32 1013904242) := (HB5.out.cell 2).trans rfl; have f3w5 : w5.cell? ⟨w.heap.size, 3, none⟩ = some (.int .u32 2773480762) := (HB5.out.cell 3).trans rfl; have f4w5 : w5.cell? ⟨w.heap.size, 4, none⟩ = some (.int .u32 1359893119) := (HB5.out.cell 4).trans rfl; have f5w5 : w5.cell? ⟨w.heap.size, 5, none⟩ = some (.int .u32 2600822924) := (HB5.out.cell 5).trans rfl; have f6w5 : w5.cell? ⟨w.heap.size, 6, none⟩ = some (.int .u32 528734635) := (HB5.out.cell 6).trans rfl; have f7w5 : w5.cell? ⟨w.heap.size, 7, none⟩ = some (.int .u32 1541459225) := (HB5.out.cell 7).trans rfl; have hfz := HB5.out.frozen))
  obtain ⟨w6, hw6⟩ : ∃ x, ((((((((w5.setCell ⟨w.heap.size, 0, none⟩ (.int .u32 (a1 : Int))).setCell ⟨w.heap.size, 1, none⟩ (.int .u32 (b1 : Int))).setCell ⟨w.heap.size, 2, none⟩ (.int .u32 (c1 : Int))).setCell ⟨w.heap.size, 3, none⟩ (.int .u32 (d1 : Int))).setCell ⟨w.heap.size, 4, none⟩ (.int .u32 (e1 : Int))).setCell ⟨w.heap.size, 5, none⟩ (.int .u32 (f1 : Int))).setCell ⟨w.heap.size, 6, none⟩ (.int .u32 (g1 : Int))).setCell ⟨w.heap.size, 7, none⟩ (.int .u32 (h1 : Int))) = x := ⟨_, rfl⟩
  rw [hw6]
  have HB6 : Hid (Blk w6 w.heap.size 37 (c8 ⟨a1, b1, c1, d1, e1, f1, g1, h1⟩)) := Lib.hid (by rw [← hw6]; exact set8_blk (t := start) HB5.out ⟨a1, b1, c1, d1, e1, f1, g1, h1⟩)
  have HN6 : Hid (New w w6) := Lib.hid (by rw [← hw6]; exact set8_below HN5.out (Nat.le_refl _) ⟨a1, b1, c1, d1, e1, f1, g1, h1⟩)
  have f0w6 : w6.cell? ⟨w.heap.size, 0, none⟩ = some (.int .u32 (a1 : Int)) := (HB6.out.cell 0).trans rfl
  have f1w6 : w6.cell? ⟨w.heap.size, 1, none⟩ = some (.int .u32 (b1 : Int)) := (HB6.out.cell 1).trans rfl
  have f2w6 : w6.cell? ⟨w.heap.size, 2, none⟩ = some (.int .u32 (c1 : Int)) := (HB6.out.cell 2).trans rfl
  have f3w6 : w6.cell? ⟨w.heap.size, 3, none⟩ = some (.int .u32 (d1 : Int)) := (HB6.out.cell 3).trans rfl
  have f4w6 : w6.cell? ⟨w.heap.size, 4, none⟩ = some (.int .u32 (e1 : Int)) := (HB6.out.cell 4).trans rfl
  have f5w6 : w6.cell? ⟨w.heap.size, 5, none⟩ = some (.int .u32 (f1 : Int)) := (HB6.out.cell 5).trans rfl
  have f6w6 : w6.cell? ⟨w.heap.size, 6, none⟩ = some (.int .u32 (g1 : Int)) := (HB6.out.cell 6).trans rfl
  have f7w6 : w6.cell? ⟨w.heap.size, 7, none⟩ = some (.int .u32 (h1 : Int)) := (HB6.out.cell 7).trans rfl
  clear hw6 hfz f0w1 f0w5 f1w1 f1w5 f2w1 f2w5 f3w1 f3w5 f4w1 f4w5 f5w1 f5w5 f6w1 f6w5 f7w1 f7w5
  go_wp2_with fail
  go_region_with (first
    | (go_at_call 24; (with_reducible refine (HEN.out w6.drew _ _ (Below.drew HN6.out) (HDR.out _ (Below.drew HN6.out))).mono ?_); rintro en w7 ⟨rfl, hb7, hn7⟩; have HN7 := Lib.hid (New.then (Below.drew HN6.out) hn7); have HBE7 := Lib.hid (HB2.out w7 w6.heap.size HN7.out hb7); have HB7 := Lib.hid (Blk.below (Blk.drew HB6.out) hn7 (Blk.drew HB6.out).lt); have f0w7 : w7.cell? ⟨w.heap.size, 0, none⟩ = some (.int .u32 (a1 : Int)) := (HB7.out.cell 0).trans rfl; have f1w7 : w7.cell? ⟨w.heap.size, 1, none⟩ = some (.int .u32 (b1 : Int)) := (HB7.out.cell 1).trans rfl; have f2w7 : w7.cell? ⟨w.heap.size, 2, none⟩ = some (.int .u32 (c1 : Int)) := (HB7.out.cell 2).trans rfl; have f3w7 : w7.cell? ⟨w.heap.size, 3, none⟩ = some (.int .u32 (d1 : Int)) := (HB7.out.cell 3).trans rfl; have f4w7 : w7.cell? ⟨w.heap.size, 4, none⟩ = some (.int .u32 (e1 : Int)) := (HB7.out.cell 4).trans rfl; have f5w7 : w7.cell? ⟨w.heap.size, 5, none⟩ = some (.int .u32 (f1 : Int)) := (HB7.out.cell 5).trans rfl; have f6w7 : w7.cell? ⟨w.heap.size, 6, none⟩ = some (.int .u32 (g1 : Int)) := (HB7.out.cell 6).trans rfl; have f7w7 : w7.cell? ⟨w.heap.size, 7, none⟩ = some (.int .u32 (h1 : Int)) := (HB7.out.cell 7).trans rfl)
    | (go_at_call 23; (with_reducible refine HBE7.out.mono ?_); rintro en w8 ⟨rfl, hn8⟩; have HN8 := Lib.hid (New.then HN7.out hn8); have HB8 := Lib.hid (Blk.below HB7.out hn8 HB7.out.lt); have f0w8 : w8.cell? ⟨w.heap.size, 0, none⟩ = some (.int .u32 (a1 : Int)) := (HB8.out.cell 0).trans rfl; have f1w8 : w8.cell? ⟨w.heap.size, 1, none⟩ = some (.int .u32 (b1 : Int)) := (HB8.out.cell 1).trans rfl; have f2w8 : w8.cell? ⟨w.heap.size, 2, none⟩ = some (.int .u32 (c1 : Int)) := (HB8.out.cell 2).trans rfl; have f3w8 : w8.cell? ⟨w.heap.size, 3, none⟩ = some (.int .u32 (d1 : Int)) := (HB8.out.cell 3).trans rfl; have f4w8 : w8.cell? ⟨w.heap.size, 4, none⟩ = some (.int .u32 (e1 : Int)) := (HB8.out.cell 4).trans rfl; have f5w8 : w8.cell? ⟨w.heap.size, 5, none⟩ = some (.int .u32 (f1 : Int)) := (HB8.out.cell 5).trans rfl; have f6w8 : w8.cell? ⟨w.heap.size, 6, none⟩ = some (.int .u32 (g1 : Int)) := (HB8.out.cell 6).trans rfl; have f7w8 : w8.cell? ⟨w.heap.size, 7, none⟩ = some (.int .u32 (h1 : Int)) := (HB8.out.cell 7).trans rfl; have hfz := HB8.out.frozen))
  all_goals
    obtain ⟨w9, hw9⟩ : ∃ x, ((((((((w8.setCell ⟨w.heap.size, 0, none⟩ (.int .u32 (a2 : Int))).setCell ⟨w.heap.size, 1, none⟩ (.int .u32 (b2 : Int))).setCell ⟨w.heap.size, 2, none⟩ (.int .u32 (c2 : Int))).setCell ⟨w.heap.size, 3, none⟩ (.int .u32 (d2 : Int))).setCell ⟨w.heap.size, 4, none⟩ (.int .u32 (e2 : Int))).setCell ⟨w.heap.size, 5, none⟩ (.int .u32 (f2 : Int))).setCell ⟨w.heap.size, 6, none⟩ (.int .u32 (g2 : Int))).setCell ⟨w.heap.size, 7, none⟩ (.int .u32 (h2 : Int))) = x := ⟨_, rfl⟩
    rw [hw9]
    have HB9 : Hid (Blk w9 w.heap.size 37 (c8 ⟨a2, b2, c2, d2, e2, f2, g2, h2⟩)) := Lib.hid (by rw [← hw9]; exact set8_blk (t := ⟨a1, b1, c1, d1, e1, f1, g1, h1⟩) HB8.out ⟨a2, b2, c2, d2, e2, f2, g2, h2⟩)
    have HN9 : Hid (New w w9) := Lib.hid (by rw [← hw9]; exact set8_below HN8.out (Nat.le_refl _) ⟨a2, b2, c2, d2, e2, f2, g2, h2⟩)
    have f0w9 : w9.cell? ⟨w.heap.size, 0, none⟩ = some (.int .u32 (a2 : Int)) := (HB9.out.cell 0).trans rfl
    have f1w9 : w9.cell? ⟨w.heap.size, 1, none⟩ = some (.int .u32 (b2 : Int)) := (HB9.out.cell 1).trans rfl
    have f2w9 : w9.cell? ⟨w.heap.size, 2, none⟩ = some (.int .u32 (c2 : Int)) := (HB9.out.cell 2).trans rfl
    have f3w9 : w9.cell? ⟨w.heap.size, 3, none⟩ = some (.int .u32 (d2 : Int)) := (HB9.out.cell 3).trans rfl
    have f4w9 : w9.cell? ⟨w.heap.size, 4, none⟩ = some (.int .u32 (e2 : Int)) := (HB9.out.cell 4).trans rfl
    have f5w9 : w9.cell? ⟨w.heap.size, 5, none⟩ = some (.int .u32 (f2 : Int)) := (HB9.out.cell 5).trans rfl
    have f6w9 : w9.cell? ⟨w.heap.size, 6, none⟩ = some (.int .u32 (g2 : Int)) := (HB9.out.cell 6).trans rfl
    have f7w9 : w9.cell? ⟨w.heap.size, 7, none⟩ = some (.int .u32 (h2 : Int)) := (HB9.out.cell 7).trans rfl
    have HBO' := Lib.hid (HBO.out w9 HN9.out)
    clear hw9 hfz f0w6 f0w7 f0w8 f1w6 f1w7 f1w8 f2w6 f2w7 f2w8 f3w6 f3w7 f3w8 f4w6 f4w7 f4w8 f5w6 f5w7 f5w8 f6w6 f6w7 f6w8 f7w6 f7w7 f7w8
    go_wp2_with (first
      | (go_at_call 25; (with_reducible refine HBO'.out.mono ?_); rintro en w10 ⟨A10, c10, rfl, ho10, hn10⟩; have HO10 := Lib.hid ho10; have HN10 := Lib.hid hn10; clear ho10 hn10))
    go_ret
    exact ⟨A10, c10, rfl, HO10.out, HN10.out⟩
set_option maxRecDepth 100000 in
set_option maxHeartbeats 4000000 in
theorem sum_full (ad : Addr) (n : Nat) (l : List UInt8) (w : World) (hn : n = l.length) (hl : n ≤ 1099511627776) (hc : n ≤ n ∧ n ≤ maxLen) (hS : SAt w) (hK : KAt w) (hA : Reads w w.heap.size 1 (some ad) n (vb l)) (h64 : n % 64 = 0) :
    Calls Tryd.prog 11 #[.slice (some ad) n n] w (Dig w (sum l)) := by
  have sg0 : w.cell? ⟨0, 0, none⟩ = some (.int .u32 1779033703) := (hS 0 (by decide)).trans rfl
  have sg1 : w.cell? ⟨0, 1, none⟩ = some (.int .u32 3144134277) := (hS 1 (by decide)).trans rfl
  have sg2 : w.cell? ⟨0, 2, none⟩ = some (.int .u32 1013904242) := (hS 2 (by decide)).trans rfl
  have sg3 : w.cell? ⟨0, 3, none⟩ = some (.int .u32 2773480762) := (hS 3 (by decide)).trans rfl
  have sg4 : w.cell? ⟨0, 4, none⟩ = some (.int .u32 1359893119) := (hS 4 (by decide)).trans rfl
  have sg5 : w.cell? ⟨0, 5, none⟩ = some (.int .u32 2600822924) := (hS 5 (by decide)).trans rfl
  have sg6 : w.cell? ⟨0, 6, none⟩ = some (.int .u32 528734635) := (hS 6 (by decide)).trans rfl
  have sg7 : w.cell? ⟨0, 7, none⟩ = some (.int .u32 1541459225) := (hS 7 (by decide)).trans rfl
  have hq : n - n % 64 = n := by omega
  have hqn : n ≤ n := by omega
  have hqi : (n : Int) - (n : Int) % 64 = (n : Int) := by omega
  have hqc : (n : Int) ≤ (n : Int) := by omega
  have hqc' : n ≤ n := by omega
  have hqn' : (n : Int) ≤ (n : Int) := by omega
  have hnc' : (n : Int) ≤ (n : Int) := by omega
  have hu64 : IntKind.u64.wrap (n : Int) = (n : Int) := IntWalk.u64_in _ ⟨by omega, by omega⟩
  have hsum : sum l = (blocks (blocks start (l.take n) (n / 64)) (pad (l.drop n) n) ((pad (l.drop n) n).length / 64)).bytes := by
    unfold sum
    rw [← hn, hq]
  obtain ⟨s1, hs1⟩ : ∃ x, blocks start (l.take n) (n / 64) = x := ⟨_, rfl⟩
  have hok1 : s1.Ok := by rw [← hs1]; exact blocks_ok _ _ start_ok _
  obtain ⟨pd, hpd⟩ : ∃ x, pad (l.drop n) n = x := ⟨_, rfl⟩
  obtain ⟨E, hE⟩ : ∃ x, pd.length = x := ⟨_, rfl⟩
  have hEb : E ≤ 128 := by
    rw [← hE, ← hpd, pad_length _ _ (by rw [List.length_drop]; omega)]
    split <;> omega
  rw [hs1, hpd, hE] at hsum
  obtain ⟨s2, hs2⟩ : ∃ x, blocks s1 pd (E / 64) = x := ⟨_, rfl⟩
  have hok2 : s2.Ok := by rw [← hs2]; exact blocks_ok _ _ hok1 _
  rw [hs2] at hsum
  have HBE : Hid (∀ W, New w W → Calls Tryd.prog 23 #[.agg (c8 start), .slice (some ad) n n] W fun e w' => e = .returned (.agg (c8 s1)) ∧ New W w') := Lib.hid (fun W hW => by
    have h := behind_any (some ad) n n start (l.take n) W (by rw [List.length_take]; omega) (by omega) ⟨by omega, hc.2⟩ start_ok (hK.new hW) (reads_take (hA.new hW) hqn)
    rwa [hs1] at h)
  have HEN : Hid (∀ W A2 c2, New w W → Reads W W.heap.size 1 A2 0 (vb (l.drop n)) → Calls Tryd.prog 24 #[.slice A2 0 c2, .int .u64 n] W fun e w' => e = .returned (.slice (some ⟨W.heap.size, 0, none⟩) E E) ∧ Bf w' W.heap.size pd ∧ New W w') := Lib.hid (fun W A2 c2 hW hr => by
    have h := end_any A2 0 c2 n (l.drop n) W (by rw [List.length_drop]; omega) (by omega) hl hr
    rwa [hpd, hE] at h)
  have HB2 : Hid (∀ W g, New w W → Bf W g pd → Calls Tryd.prog 23 #[.agg (c8 s1), .slice (some ⟨g, 0, none⟩) E E] W fun e w' => e = .returned (.agg (c8 s2)) ∧ New W w') := Lib.hid (fun W g hW hb => by
    have hr := hb.reads
    rw [hE] at hr
    have h := behind_any (some ⟨g, 0, none⟩) E E s1 pd W hE.symm (by omega) ⟨Nat.le_refl _, by unfold maxLen; omega⟩ hok1 (hK.new hW) hr
    rwa [hs2] at h)
  have HBO : Hid (∀ W, New w W → Calls Tryd.prog 25 #[.agg (c8 s2)] W (Dig w (sum l))) := Lib.hid (fun W hW => (bytesOf_any s2 W hok2).mono fun e w' k => by
    obtain ⟨A, c, he, ho, hn⟩ := k
    rw [hsum]
    exact ⟨A, c, he, own_base ho hW.size, New.then hW hn⟩)
  have HDR : Hid (∀ W, New w W → Reads W W.heap.size 1 (some ad) 0 (vb (l.drop n))) := Lib.hid (fun W hW => reads_empty _ _ _ _ rfl (by rw [List.drop_eq_nil_of_le (by omega)]; rfl))
  have HST : c8 start = #[.int .u32 1779033703, .int .u32 3144134277, .int .u32 1013904242, .int .u32 2773480762, .int .u32 1359893119, .int .u32 2600822924, .int .u32 528734635, .int .u32 1541459225] := start_lit
  obtain ⟨a1, b1, c1, d1, e1, f1, g1, h1⟩ := s1
  obtain ⟨a2, b2, c2, d2, e2, f2, g2, h2⟩ := s2
  rw [HST] at HBE
  simp only [c8] at HBE HB2 HBO
  have HN := Lib.hid hn
  have HC := Lib.hid hc.2
  clear hS hK hA hn hc hq hs1 hs2 hpd hE hok1 hok2 hsum HST
  go_enter Tryd.func11, Tryd.ntmps11
  go_wp2
  obtain ⟨w1, hw1⟩ : ∃ x, w.alloc (.cells #[.int .u32 1779033703, .int .u32 3144134277, .int .u32 1013904242, .int .u32 2773480762, .int .u32 1359893119, .int .u32 2600822924, .int .u32 528734635, .int .u32 1541459225] 37) = x := ⟨_, rfl⟩
  rw [hw1]
  have HB1 : Hid (Blk w1 w.heap.size 37 #[.int .u32 1779033703, .int .u32 3144134277, .int .u32 1013904242, .int .u32 2773480762, .int .u32 1359893119, .int .u32 2600822924, .int .u32 528734635, .int .u32 1541459225]) := Lib.hid (by rw [← hw1]; exact Blk.new w _ _)
  have HN1 : Hid (New w w1) := Lib.hid (by rw [← hw1]; exact alloc_new w _)
  have f0w1 : w1.cell? ⟨w.heap.size, 0, none⟩ = some (.int .u32 1779033703) := (HB1.out.cell 0).trans rfl
  have f1w1 : w1.cell? ⟨w.heap.size, 1, none⟩ = some (.int .u32 3144134277) := (HB1.out.cell 1).trans rfl
  have f2w1 : w1.cell? ⟨w.heap.size, 2, none⟩ = some (.int .u32 1013904242) := (HB1.out.cell 2).trans rfl
  have f3w1 : w1.cell? ⟨w.heap.size, 3, none⟩ = some (.int .u32 2773480762) := (HB1.out.cell 3).trans rfl
  have f4w1 : w1.cell? ⟨w.heap.size, 4, none⟩ = some (.int .u32 1359893119) := (HB1.out.cell 4).trans rfl
  have f5w1 : w1.cell? ⟨w.heap.size, 5, none⟩ = some (.int .u32 2600822924) := (HB1.out.cell 5).trans rfl
  have f6w1 : w1.cell? ⟨w.heap.size, 6, none⟩ = some (.int .u32 528734635) := (HB1.out.cell 6).trans rfl
  have f7w1 : w1.cell? ⟨w.heap.size, 7, none⟩ = some (.int .u32 1541459225) := (HB1.out.cell 7).trans rfl
  clear hw1
  go_region_with (first
    | (go_at_call 23; (with_reducible refine (HBE.out w1.drew (Below.drew HN1.out)).mono ?_); rintro en w5 ⟨rfl, hn5⟩; have HN5 := Lib.hid (New.then (Below.drew HN1.out) hn5); have HB5 := Lib.hid (Blk.below (Blk.drew HB1.out) hn5 (Blk.drew HB1.out).lt); have f0w5 : w5.cell? ⟨w.heap.size, 0, none⟩ = some (.int .u32 1779033703) := (HB5.out.cell 0).trans rfl; have f1w5 : w5.cell? ⟨w.heap.size, 1, none⟩ = some (.int .u32 3144134277) := (HB5.out.cell 1).trans rfl; have f2w5 : w5.cell? ⟨w.heap.size, 2, none⟩ = some (.int .u32 1013904242) := (HB5.out.cell 2).trans rfl; have f3w5 : w5.cell? ⟨w.heap.size, 3, none⟩ = some (.int .u32 2773480762) := (HB5.out.cell 3).trans rfl; have f4w5 : w5.cell? ⟨w.heap.size, 4, none⟩ = some (.int .u32 1359893119) := (HB5.out.cell 4).trans rfl; have f5w5 : w5.cell? ⟨w.heap.size, 5, none⟩ = some (.int .u32 2600822924) := (HB5.out.cell 5).trans rfl; have f6w5 : w5.cell? ⟨w.heap.size, 6, none⟩ = some (.int .u32 528734635) := (HB5.out.cell 6).trans rfl; have f7w5 : w5.cell? ⟨w.heap.size, 7, none⟩ = some (.int .u32 1541459225) := (HB5.out.cell 7).trans rfl; have hfz := HB5.out.frozen))
  obtain ⟨w6, hw6⟩ : ∃ x, ((((((((w5.setCell ⟨w.heap.size, 0, none⟩ (.int .u32 (a1 : Int))).setCell ⟨w.heap.size, 1, none⟩ (.int .u32 (b1 : Int))).setCell ⟨w.heap.size, 2, none⟩ (.int .u32 (c1 : Int))).setCell ⟨w.heap.size, 3, none⟩ (.int .u32 (d1 : Int))).setCell ⟨w.heap.size, 4, none⟩ (.int .u32 (e1 : Int))).setCell ⟨w.heap.size, 5, none⟩ (.int .u32 (f1 : Int))).setCell ⟨w.heap.size, 6, none⟩ (.int .u32 (g1 : Int))).setCell ⟨w.heap.size, 7, none⟩ (.int .u32 (h1 : Int))) = x := ⟨_, rfl⟩
  rw [hw6]
  have HB6 : Hid (Blk w6 w.heap.size 37 (c8 ⟨a1, b1, c1, d1, e1, f1, g1, h1⟩)) := Lib.hid (by rw [← hw6]; exact set8_blk (t := start) HB5.out ⟨a1, b1, c1, d1, e1, f1, g1, h1⟩)
  have HN6 : Hid (New w w6) := Lib.hid (by rw [← hw6]; exact set8_below HN5.out (Nat.le_refl _) ⟨a1, b1, c1, d1, e1, f1, g1, h1⟩)
  have f0w6 : w6.cell? ⟨w.heap.size, 0, none⟩ = some (.int .u32 (a1 : Int)) := (HB6.out.cell 0).trans rfl
  have f1w6 : w6.cell? ⟨w.heap.size, 1, none⟩ = some (.int .u32 (b1 : Int)) := (HB6.out.cell 1).trans rfl
  have f2w6 : w6.cell? ⟨w.heap.size, 2, none⟩ = some (.int .u32 (c1 : Int)) := (HB6.out.cell 2).trans rfl
  have f3w6 : w6.cell? ⟨w.heap.size, 3, none⟩ = some (.int .u32 (d1 : Int)) := (HB6.out.cell 3).trans rfl
  have f4w6 : w6.cell? ⟨w.heap.size, 4, none⟩ = some (.int .u32 (e1 : Int)) := (HB6.out.cell 4).trans rfl
  have f5w6 : w6.cell? ⟨w.heap.size, 5, none⟩ = some (.int .u32 (f1 : Int)) := (HB6.out.cell 5).trans rfl
  have f6w6 : w6.cell? ⟨w.heap.size, 6, none⟩ = some (.int .u32 (g1 : Int)) := (HB6.out.cell 6).trans rfl
  have f7w6 : w6.cell? ⟨w.heap.size, 7, none⟩ = some (.int .u32 (h1 : Int)) := (HB6.out.cell 7).trans rfl
  clear hw6 hfz f0w1 f0w5 f1w1 f1w5 f2w1 f2w5 f3w1 f3w5 f4w1 f4w5 f5w1 f5w5 f6w1 f6w5 f7w1 f7w5
  go_wp2_with fail
  go_region_with (first
    | (go_at_call 24; (with_reducible refine (HEN.out w6.drew _ _ (Below.drew HN6.out) (HDR.out _ (Below.drew HN6.out))).mono ?_); rintro en w7 ⟨rfl, hb7, hn7⟩; have HN7 := Lib.hid (New.then (Below.drew HN6.out) hn7); have HBE7 := Lib.hid (HB2.out w7 w6.heap.size HN7.out hb7); have HB7 := Lib.hid (Blk.below (Blk.drew HB6.out) hn7 (Blk.drew HB6.out).lt); have f0w7 : w7.cell? ⟨w.heap.size, 0, none⟩ = some (.int .u32 (a1 : Int)) := (HB7.out.cell 0).trans rfl; have f1w7 : w7.cell? ⟨w.heap.size, 1, none⟩ = some (.int .u32 (b1 : Int)) := (HB7.out.cell 1).trans rfl; have f2w7 : w7.cell? ⟨w.heap.size, 2, none⟩ = some (.int .u32 (c1 : Int)) := (HB7.out.cell 2).trans rfl; have f3w7 : w7.cell? ⟨w.heap.size, 3, none⟩ = some (.int .u32 (d1 : Int)) := (HB7.out.cell 3).trans rfl; have f4w7 : w7.cell? ⟨w.heap.size, 4, none⟩ = some (.int .u32 (e1 : Int)) := (HB7.out.cell 4).trans rfl; have f5w7 : w7.cell? ⟨w.heap.size, 5, none⟩ = some (.int .u32 (f1 : Int)) := (HB7.out.cell 5).trans rfl; have f6w7 : w7.cell? ⟨w.heap.size, 6, none⟩ = some (.int .u32 (g1 : Int)) := (HB7.out.cell 6).trans rfl; have f7w7 : w7.cell? ⟨w.heap.size, 7, none⟩ = some (.int .u32 (h1 : Int)) := (HB7.out.cell 7).trans rfl)
    | (go_at_call 23; (with_reducible refine HBE7.out.mono ?_); rintro en w8 ⟨rfl, hn8⟩; have HN8 := Lib.hid (New.then HN7.out hn8); have HB8 := Lib.hid (Blk.below HB7.out hn8 HB7.out.lt); have f0w8 : w8.cell? ⟨w.heap.size, 0, none⟩ = some (.int .u32 (a1 : Int)) := (HB8.out.cell 0).trans rfl; have f1w8 : w8.cell? ⟨w.heap.size, 1, none⟩ = some (.int .u32 (b1 : Int)) := (HB8.out.cell 1).trans rfl; have f2w8 : w8.cell? ⟨w.heap.size, 2, none⟩ = some (.int .u32 (c1 : Int)) := (HB8.out.cell 2).trans rfl; have f3w8 : w8.cell? ⟨w.heap.size, 3, none⟩ = some (.int .u32 (d1 : Int)) := (HB8.out.cell 3).trans rfl; have f4w8 : w8.cell? ⟨w.heap.size, 4, none⟩ = some (.int .u32 (e1 : Int)) := (HB8.out.cell 4).trans rfl; have f5w8 : w8.cell? ⟨w.heap.size, 5, none⟩ = some (.int .u32 (f1 : Int)) := (HB8.out.cell 5).trans rfl; have f6w8 : w8.cell? ⟨w.heap.size, 6, none⟩ = some (.int .u32 (g1 : Int)) := (HB8.out.cell 6).trans rfl; have f7w8 : w8.cell? ⟨w.heap.size, 7, none⟩ = some (.int .u32 (h1 : Int)) := (HB8.out.cell 7).trans rfl; have hfz := HB8.out.frozen))
  all_goals
    obtain ⟨w9, hw9⟩ : ∃ x, ((((((((w8.setCell ⟨w.heap.size, 0, none⟩ (.int .u32 (a2 : Int))).setCell ⟨w.heap.size, 1, none⟩ (.int .u32 (b2 : Int))).setCell ⟨w.heap.size, 2, none⟩ (.int .u32 (c2 : Int))).setCell ⟨w.heap.size, 3, none⟩ (.int .u32 (d2 : Int))).setCell ⟨w.heap.size, 4, none⟩ (.int .u32 (e2 : Int))).setCell ⟨w.heap.size, 5, none⟩ (.int .u32 (f2 : Int))).setCell ⟨w.heap.size, 6, none⟩ (.int .u32 (g2 : Int))).setCell ⟨w.heap.size, 7, none⟩ (.int .u32 (h2 : Int))) = x := ⟨_, rfl⟩
    rw [hw9]
    have HB9 : Hid (Blk w9 w.heap.size 37 (c8 ⟨a2, b2, c2, d2, e2, f2, g2, h2⟩)) := Lib.hid (by rw [← hw9]; exact set8_blk (t := ⟨a1, b1, c1, d1, e1, f1, g1, h1⟩) HB8.out ⟨a2, b2, c2, d2, e2, f2, g2, h2⟩)
    have HN9 : Hid (New w w9) := Lib.hid (by rw [← hw9]; exact set8_below HN8.out (Nat.le_refl _) ⟨a2, b2, c2, d2, e2, f2, g2, h2⟩)
    have f0w9 : w9.cell? ⟨w.heap.size, 0, none⟩ = some (.int .u32 (a2 : Int)) := (HB9.out.cell 0).trans rfl
    have f1w9 : w9.cell? ⟨w.heap.size, 1, none⟩ = some (.int .u32 (b2 : Int)) := (HB9.out.cell 1).trans rfl
    have f2w9 : w9.cell? ⟨w.heap.size, 2, none⟩ = some (.int .u32 (c2 : Int)) := (HB9.out.cell 2).trans rfl
    have f3w9 : w9.cell? ⟨w.heap.size, 3, none⟩ = some (.int .u32 (d2 : Int)) := (HB9.out.cell 3).trans rfl
    have f4w9 : w9.cell? ⟨w.heap.size, 4, none⟩ = some (.int .u32 (e2 : Int)) := (HB9.out.cell 4).trans rfl
    have f5w9 : w9.cell? ⟨w.heap.size, 5, none⟩ = some (.int .u32 (f2 : Int)) := (HB9.out.cell 5).trans rfl
    have f6w9 : w9.cell? ⟨w.heap.size, 6, none⟩ = some (.int .u32 (g2 : Int)) := (HB9.out.cell 6).trans rfl
    have f7w9 : w9.cell? ⟨w.heap.size, 7, none⟩ = some (.int .u32 (h2 : Int)) := (HB9.out.cell 7).trans rfl
    have HBO' := Lib.hid (HBO.out w9 HN9.out)
    clear hw9 hfz f0w6 f0w7 f0w8 f1w6 f1w7 f1w8 f2w6 f2w7 f2w8 f3w6 f3w7 f3w8 f4w6 f4w7 f4w8 f5w6 f5w7 f5w8 f6w6 f6w7 f6w8 f7w6 f7w7 f7w8
    go_wp2_with (first
      | (go_at_call 25; (with_reducible refine HBO'.out.mono ?_); rintro en w10 ⟨A10, c10, rfl, ho10, hn10⟩; have HO10 := Lib.hid ho10; have HN10 := Lib.hid hn10; clear ho10 hn10))
    go_ret
    exact ⟨A10, c10, rfl, HO10.out, HN10.out⟩
set_option maxRecDepth 100000 in
set_option maxHeartbeats 4000000 in
theorem sum_none (n c : Nat) (l : List UInt8) (w : World) (hn : n = l.length) (hl : n ≤ 1099511627776) (hc : n ≤ c ∧ c ≤ maxLen) (hS : SAt w) (hK : KAt w) (hA : Reads w w.heap.size 1 none n (vb l)) :
    Calls Tryd.prog 11 #[.slice none n c] w (Dig w (sum l)) := by
  have sg0 : w.cell? ⟨0, 0, none⟩ = some (.int .u32 1779033703) := (hS 0 (by decide)).trans rfl
  have sg1 : w.cell? ⟨0, 1, none⟩ = some (.int .u32 3144134277) := (hS 1 (by decide)).trans rfl
  have sg2 : w.cell? ⟨0, 2, none⟩ = some (.int .u32 1013904242) := (hS 2 (by decide)).trans rfl
  have sg3 : w.cell? ⟨0, 3, none⟩ = some (.int .u32 2773480762) := (hS 3 (by decide)).trans rfl
  have sg4 : w.cell? ⟨0, 4, none⟩ = some (.int .u32 1359893119) := (hS 4 (by decide)).trans rfl
  have sg5 : w.cell? ⟨0, 5, none⟩ = some (.int .u32 2600822924) := (hS 5 (by decide)).trans rfl
  have sg6 : w.cell? ⟨0, 6, none⟩ = some (.int .u32 528734635) := (hS 6 (by decide)).trans rfl
  have sg7 : w.cell? ⟨0, 7, none⟩ = some (.int .u32 1541459225) := (hS 7 (by decide)).trans rfl
  obtain ⟨q, hq⟩ : ∃ q, n - n % 64 = q := ⟨_, rfl⟩
  have hqn : q ≤ n := by omega
  have hn0 : n = 0 := by
    rcases Nat.eq_zero_or_pos n with h | h
    · exact h
    · obtain ⟨ad, e, _⟩ := hA.2 h
      cases e
  have hqi : (n : Int) - (n : Int) % 64 = (q : Int) := by omega
  have hqc : (q : Int) ≤ (c : Int) := by omega
  have hqc' : q ≤ c := by omega
  have hqn' : (q : Int) ≤ (n : Int) := by omega
  have hnc' : (n : Int) ≤ (c : Int) := by omega
  have hu64 : IntKind.u64.wrap (n : Int) = (n : Int) := IntWalk.u64_in _ ⟨by omega, by omega⟩
  have hsum : sum l = (blocks (blocks start (l.take q) (q / 64)) (pad (l.drop q) n) ((pad (l.drop q) n).length / 64)).bytes := by
    unfold sum
    rw [← hn, hq]
  obtain ⟨s1, hs1⟩ : ∃ x, blocks start (l.take q) (q / 64) = x := ⟨_, rfl⟩
  have hok1 : s1.Ok := by rw [← hs1]; exact blocks_ok _ _ start_ok _
  obtain ⟨pd, hpd⟩ : ∃ x, pad (l.drop q) n = x := ⟨_, rfl⟩
  obtain ⟨E, hE⟩ : ∃ x, pd.length = x := ⟨_, rfl⟩
  have hEb : E ≤ 128 := by
    rw [← hE, ← hpd, pad_length _ _ (by rw [List.length_drop]; omega)]
    split <;> omega
  rw [hs1, hpd, hE] at hsum
  obtain ⟨s2, hs2⟩ : ∃ x, blocks s1 pd (E / 64) = x := ⟨_, rfl⟩
  have hok2 : s2.Ok := by rw [← hs2]; exact blocks_ok _ _ hok1 _
  rw [hs2] at hsum
  have HBE : Hid (∀ W, New w W → Calls Tryd.prog 23 #[.agg (c8 start), .slice none q c] W fun e w' => e = .returned (.agg (c8 s1)) ∧ New W w') := Lib.hid (fun W hW => by
    have h := behind_any none q c start (l.take q) W (by rw [List.length_take]; omega) (by omega) ⟨by omega, hc.2⟩ start_ok (hK.new hW) (reads_take (hA.new hW) hqn)
    rwa [hs1] at h)
  have HEN : Hid (∀ W A2 c2, New w W → Reads W W.heap.size 1 A2 (n - q) (vb (l.drop q)) → Calls Tryd.prog 24 #[.slice A2 (n - q) c2, .int .u64 n] W fun e w' => e = .returned (.slice (some ⟨W.heap.size, 0, none⟩) E E) ∧ Bf w' W.heap.size pd ∧ New W w') := Lib.hid (fun W A2 c2 hW hr => by
    have h := end_any A2 (n - q) c2 n (l.drop q) W (by rw [List.length_drop]; omega) (by omega) hl hr
    rwa [hpd, hE] at h)
  have HB2 : Hid (∀ W g, New w W → Bf W g pd → Calls Tryd.prog 23 #[.agg (c8 s1), .slice (some ⟨g, 0, none⟩) E E] W fun e w' => e = .returned (.agg (c8 s2)) ∧ New W w') := Lib.hid (fun W g hW hb => by
    have hr := hb.reads
    rw [hE] at hr
    have h := behind_any (some ⟨g, 0, none⟩) E E s1 pd W hE.symm (by omega) ⟨Nat.le_refl _, by unfold maxLen; omega⟩ hok1 (hK.new hW) hr
    rwa [hs2] at h)
  have HBO : Hid (∀ W, New w W → Calls Tryd.prog 25 #[.agg (c8 s2)] W (Dig w (sum l))) := Lib.hid (fun W hW => (bytesOf_any s2 W hok2).mono fun e w' k => by
    obtain ⟨A, c, he, ho, hn⟩ := k
    rw [hsum]
    exact ⟨A, c, he, own_base ho hW.size, New.then hW hn⟩)
  have HDR : Hid (∀ W, New w W → Reads W W.heap.size 1 none (n - q) (vb (l.drop q))) := Lib.hid (fun W hW => reads_empty _ _ _ _ (by omega) (by rw [List.drop_eq_nil_of_le (by omega)]; rfl))
  have HST : c8 start = #[.int .u32 1779033703, .int .u32 3144134277, .int .u32 1013904242, .int .u32 2773480762, .int .u32 1359893119, .int .u32 2600822924, .int .u32 528734635, .int .u32 1541459225] := start_lit
  obtain ⟨a1, b1, c1, d1, e1, f1, g1, h1⟩ := s1
  obtain ⟨a2, b2, c2, d2, e2, f2, g2, h2⟩ := s2
  rw [HST] at HBE
  simp only [c8] at HBE HB2 HBO
  have HN := Lib.hid hn
  have HC := Lib.hid hc.2
  clear hn0 hS hK hA hn hc hq hs1 hs2 hpd hE hok1 hok2 hsum HST
  go_enter Tryd.func11, Tryd.ntmps11
  go_wp2
  obtain ⟨w1, hw1⟩ : ∃ x, w.alloc (.cells #[.int .u32 1779033703, .int .u32 3144134277, .int .u32 1013904242, .int .u32 2773480762, .int .u32 1359893119, .int .u32 2600822924, .int .u32 528734635, .int .u32 1541459225] 37) = x := ⟨_, rfl⟩
  rw [hw1]
  have HB1 : Hid (Blk w1 w.heap.size 37 #[.int .u32 1779033703, .int .u32 3144134277, .int .u32 1013904242, .int .u32 2773480762, .int .u32 1359893119, .int .u32 2600822924, .int .u32 528734635, .int .u32 1541459225]) := Lib.hid (by rw [← hw1]; exact Blk.new w _ _)
  have HN1 : Hid (New w w1) := Lib.hid (by rw [← hw1]; exact alloc_new w _)
  have f0w1 : w1.cell? ⟨w.heap.size, 0, none⟩ = some (.int .u32 1779033703) := (HB1.out.cell 0).trans rfl
  have f1w1 : w1.cell? ⟨w.heap.size, 1, none⟩ = some (.int .u32 3144134277) := (HB1.out.cell 1).trans rfl
  have f2w1 : w1.cell? ⟨w.heap.size, 2, none⟩ = some (.int .u32 1013904242) := (HB1.out.cell 2).trans rfl
  have f3w1 : w1.cell? ⟨w.heap.size, 3, none⟩ = some (.int .u32 2773480762) := (HB1.out.cell 3).trans rfl
  have f4w1 : w1.cell? ⟨w.heap.size, 4, none⟩ = some (.int .u32 1359893119) := (HB1.out.cell 4).trans rfl
  have f5w1 : w1.cell? ⟨w.heap.size, 5, none⟩ = some (.int .u32 2600822924) := (HB1.out.cell 5).trans rfl
  have f6w1 : w1.cell? ⟨w.heap.size, 6, none⟩ = some (.int .u32 528734635) := (HB1.out.cell 6).trans rfl
  have f7w1 : w1.cell? ⟨w.heap.size, 7, none⟩ = some (.int .u32 1541459225) := (HB1.out.cell 7).trans rfl
  clear hw1
  go_region_with (first
    | (go_at_call 23; (with_reducible refine (HBE.out w1.drew (Below.drew HN1.out)).mono ?_); rintro en w5 ⟨rfl, hn5⟩; have HN5 := Lib.hid (New.then (Below.drew HN1.out) hn5); have HB5 := Lib.hid (Blk.below (Blk.drew HB1.out) hn5 (Blk.drew HB1.out).lt); have f0w5 : w5.cell? ⟨w.heap.size, 0, none⟩ = some (.int .u32 1779033703) := (HB5.out.cell 0).trans rfl; have f1w5 : w5.cell? ⟨w.heap.size, 1, none⟩ = some (.int .u32 3144134277) := (HB5.out.cell 1).trans rfl; have f2w5 : w5.cell? ⟨w.heap.size, 2, none⟩ = some (.int .u32 1013904242) := (HB5.out.cell 2).trans rfl; have f3w5 : w5.cell? ⟨w.heap.size, 3, none⟩ = some (.int .u32 2773480762) := (HB5.out.cell 3).trans rfl; have f4w5 : w5.cell? ⟨w.heap.size, 4, none⟩ = some (.int .u32 1359893119) := (HB5.out.cell 4).trans rfl; have f5w5 : w5.cell? ⟨w.heap.size, 5, none⟩ = some (.int .u32 2600822924) := (HB5.out.cell 5).trans rfl; have f6w5 : w5.cell? ⟨w.heap.size, 6, none⟩ = some (.int .u32 528734635) := (HB5.out.cell 6).trans rfl; have f7w5 : w5.cell? ⟨w.heap.size, 7, none⟩ = some (.int .u32 1541459225) := (HB5.out.cell 7).trans rfl; have hfz := HB5.out.frozen))
  obtain ⟨w6, hw6⟩ : ∃ x, ((((((((w5.setCell ⟨w.heap.size, 0, none⟩ (.int .u32 (a1 : Int))).setCell ⟨w.heap.size, 1, none⟩ (.int .u32 (b1 : Int))).setCell ⟨w.heap.size, 2, none⟩ (.int .u32 (c1 : Int))).setCell ⟨w.heap.size, 3, none⟩ (.int .u32 (d1 : Int))).setCell ⟨w.heap.size, 4, none⟩ (.int .u32 (e1 : Int))).setCell ⟨w.heap.size, 5, none⟩ (.int .u32 (f1 : Int))).setCell ⟨w.heap.size, 6, none⟩ (.int .u32 (g1 : Int))).setCell ⟨w.heap.size, 7, none⟩ (.int .u32 (h1 : Int))) = x := ⟨_, rfl⟩
  rw [hw6]
  have HB6 : Hid (Blk w6 w.heap.size 37 (c8 ⟨a1, b1, c1, d1, e1, f1, g1, h1⟩)) := Lib.hid (by rw [← hw6]; exact set8_blk (t := start) HB5.out ⟨a1, b1, c1, d1, e1, f1, g1, h1⟩)
  have HN6 : Hid (New w w6) := Lib.hid (by rw [← hw6]; exact set8_below HN5.out (Nat.le_refl _) ⟨a1, b1, c1, d1, e1, f1, g1, h1⟩)
  have f0w6 : w6.cell? ⟨w.heap.size, 0, none⟩ = some (.int .u32 (a1 : Int)) := (HB6.out.cell 0).trans rfl
  have f1w6 : w6.cell? ⟨w.heap.size, 1, none⟩ = some (.int .u32 (b1 : Int)) := (HB6.out.cell 1).trans rfl
  have f2w6 : w6.cell? ⟨w.heap.size, 2, none⟩ = some (.int .u32 (c1 : Int)) := (HB6.out.cell 2).trans rfl
  have f3w6 : w6.cell? ⟨w.heap.size, 3, none⟩ = some (.int .u32 (d1 : Int)) := (HB6.out.cell 3).trans rfl
  have f4w6 : w6.cell? ⟨w.heap.size, 4, none⟩ = some (.int .u32 (e1 : Int)) := (HB6.out.cell 4).trans rfl
  have f5w6 : w6.cell? ⟨w.heap.size, 5, none⟩ = some (.int .u32 (f1 : Int)) := (HB6.out.cell 5).trans rfl
  have f6w6 : w6.cell? ⟨w.heap.size, 6, none⟩ = some (.int .u32 (g1 : Int)) := (HB6.out.cell 6).trans rfl
  have f7w6 : w6.cell? ⟨w.heap.size, 7, none⟩ = some (.int .u32 (h1 : Int)) := (HB6.out.cell 7).trans rfl
  clear hw6 hfz f0w1 f0w5 f1w1 f1w5 f2w1 f2w5 f3w1 f3w5 f4w1 f4w5 f5w1 f5w5 f6w1 f6w5 f7w1 f7w5
  go_wp2_with fail
  go_region_with (first
    | (go_at_call 24; (with_reducible refine (HEN.out w6.drew _ _ (Below.drew HN6.out) (HDR.out _ (Below.drew HN6.out))).mono ?_); rintro en w7 ⟨rfl, hb7, hn7⟩; have HN7 := Lib.hid (New.then (Below.drew HN6.out) hn7); have HBE7 := Lib.hid (HB2.out w7 w6.heap.size HN7.out hb7); have HB7 := Lib.hid (Blk.below (Blk.drew HB6.out) hn7 (Blk.drew HB6.out).lt); have f0w7 : w7.cell? ⟨w.heap.size, 0, none⟩ = some (.int .u32 (a1 : Int)) := (HB7.out.cell 0).trans rfl; have f1w7 : w7.cell? ⟨w.heap.size, 1, none⟩ = some (.int .u32 (b1 : Int)) := (HB7.out.cell 1).trans rfl; have f2w7 : w7.cell? ⟨w.heap.size, 2, none⟩ = some (.int .u32 (c1 : Int)) := (HB7.out.cell 2).trans rfl; have f3w7 : w7.cell? ⟨w.heap.size, 3, none⟩ = some (.int .u32 (d1 : Int)) := (HB7.out.cell 3).trans rfl; have f4w7 : w7.cell? ⟨w.heap.size, 4, none⟩ = some (.int .u32 (e1 : Int)) := (HB7.out.cell 4).trans rfl; have f5w7 : w7.cell? ⟨w.heap.size, 5, none⟩ = some (.int .u32 (f1 : Int)) := (HB7.out.cell 5).trans rfl; have f6w7 : w7.cell? ⟨w.heap.size, 6, none⟩ = some (.int .u32 (g1 : Int)) := (HB7.out.cell 6).trans rfl; have f7w7 : w7.cell? ⟨w.heap.size, 7, none⟩ = some (.int .u32 (h1 : Int)) := (HB7.out.cell 7).trans rfl)
    | (go_at_call 23; (with_reducible refine HBE7.out.mono ?_); rintro en w8 ⟨rfl, hn8⟩; have HN8 := Lib.hid (New.then HN7.out hn8); have HB8 := Lib.hid (Blk.below HB7.out hn8 HB7.out.lt); have f0w8 : w8.cell? ⟨w.heap.size, 0, none⟩ = some (.int .u32 (a1 : Int)) := (HB8.out.cell 0).trans rfl; have f1w8 : w8.cell? ⟨w.heap.size, 1, none⟩ = some (.int .u32 (b1 : Int)) := (HB8.out.cell 1).trans rfl; have f2w8 : w8.cell? ⟨w.heap.size, 2, none⟩ = some (.int .u32 (c1 : Int)) := (HB8.out.cell 2).trans rfl; have f3w8 : w8.cell? ⟨w.heap.size, 3, none⟩ = some (.int .u32 (d1 : Int)) := (HB8.out.cell 3).trans rfl; have f4w8 : w8.cell? ⟨w.heap.size, 4, none⟩ = some (.int .u32 (e1 : Int)) := (HB8.out.cell 4).trans rfl; have f5w8 : w8.cell? ⟨w.heap.size, 5, none⟩ = some (.int .u32 (f1 : Int)) := (HB8.out.cell 5).trans rfl; have f6w8 : w8.cell? ⟨w.heap.size, 6, none⟩ = some (.int .u32 (g1 : Int)) := (HB8.out.cell 6).trans rfl; have f7w8 : w8.cell? ⟨w.heap.size, 7, none⟩ = some (.int .u32 (h1 : Int)) := (HB8.out.cell 7).trans rfl; have hfz := HB8.out.frozen))
  all_goals
    obtain ⟨w9, hw9⟩ : ∃ x, ((((((((w8.setCell ⟨w.heap.size, 0, none⟩ (.int .u32 (a2 : Int))).setCell ⟨w.heap.size, 1, none⟩ (.int .u32 (b2 : Int))).setCell ⟨w.heap.size, 2, none⟩ (.int .u32 (c2 : Int))).setCell ⟨w.heap.size, 3, none⟩ (.int .u32 (d2 : Int))).setCell ⟨w.heap.size, 4, none⟩ (.int .u32 (e2 : Int))).setCell ⟨w.heap.size, 5, none⟩ (.int .u32 (f2 : Int))).setCell ⟨w.heap.size, 6, none⟩ (.int .u32 (g2 : Int))).setCell ⟨w.heap.size, 7, none⟩ (.int .u32 (h2 : Int))) = x := ⟨_, rfl⟩
    rw [hw9]
    have HB9 : Hid (Blk w9 w.heap.size 37 (c8 ⟨a2, b2, c2, d2, e2, f2, g2, h2⟩)) := Lib.hid (by rw [← hw9]; exact set8_blk (t := ⟨a1, b1, c1, d1, e1, f1, g1, h1⟩) HB8.out ⟨a2, b2, c2, d2, e2, f2, g2, h2⟩)
    have HN9 : Hid (New w w9) := Lib.hid (by rw [← hw9]; exact set8_below HN8.out (Nat.le_refl _) ⟨a2, b2, c2, d2, e2, f2, g2, h2⟩)
    have f0w9 : w9.cell? ⟨w.heap.size, 0, none⟩ = some (.int .u32 (a2 : Int)) := (HB9.out.cell 0).trans rfl
    have f1w9 : w9.cell? ⟨w.heap.size, 1, none⟩ = some (.int .u32 (b2 : Int)) := (HB9.out.cell 1).trans rfl
    have f2w9 : w9.cell? ⟨w.heap.size, 2, none⟩ = some (.int .u32 (c2 : Int)) := (HB9.out.cell 2).trans rfl
    have f3w9 : w9.cell? ⟨w.heap.size, 3, none⟩ = some (.int .u32 (d2 : Int)) := (HB9.out.cell 3).trans rfl
    have f4w9 : w9.cell? ⟨w.heap.size, 4, none⟩ = some (.int .u32 (e2 : Int)) := (HB9.out.cell 4).trans rfl
    have f5w9 : w9.cell? ⟨w.heap.size, 5, none⟩ = some (.int .u32 (f2 : Int)) := (HB9.out.cell 5).trans rfl
    have f6w9 : w9.cell? ⟨w.heap.size, 6, none⟩ = some (.int .u32 (g2 : Int)) := (HB9.out.cell 6).trans rfl
    have f7w9 : w9.cell? ⟨w.heap.size, 7, none⟩ = some (.int .u32 (h2 : Int)) := (HB9.out.cell 7).trans rfl
    have HBO' := Lib.hid (HBO.out w9 HN9.out)
    clear hw9 hfz f0w6 f0w7 f0w8 f1w6 f1w7 f1w8 f2w6 f2w7 f2w8 f3w6 f3w7 f3w8 f4w6 f4w7 f4w8 f5w6 f5w7 f5w8 f6w6 f6w7 f6w8 f7w6 f7w7 f7w8
    go_wp2_with (first
      | (go_at_call 25; (with_reducible refine HBO'.out.mono ?_); rintro en w10 ⟨A10, c10, rfl, ho10, hn10⟩; have HO10 := Lib.hid ho10; have HN10 := Lib.hid hn10; clear ho10 hn10))
    go_ret
    exact ⟨A10, c10, rfl, HO10.out, HN10.out⟩

theorem sum_any (A : Option Addr) (n c : Nat) (l : List UInt8) (w : World) (hn : n = l.length) (hl : n ≤ 1099511627776) (hc : n ≤ c ∧ c ≤ maxLen) (hS : SAt w) (hK : KAt w) (hA : Reads w w.heap.size 1 A n (vb l)) :
    Calls Tryd.prog 11 #[.slice A n c] w (Dig w (sum l)) := by
  cases A with
  | none => exact sum_none n c l w hn hl hc hS hK hA
  | some ad =>
    by_cases hcq : c = n - n % 64
    · obtain rfl : c = n := by omega
      exact sum_full ad c l w hn hl hc hS hK hA (by omega)
    · exact sum_some ad n c l w hn hl hc hS hK hA hcq
end Go.Proofs.YtnmjgbkifglleaaDoor.sha
