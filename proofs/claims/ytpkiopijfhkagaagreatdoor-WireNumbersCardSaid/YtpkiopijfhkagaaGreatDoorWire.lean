/-
  Contracts of wire's writers.
-/
import Derived.Test.YtpkiopijfhkagaaGreatDoorKitC
import Derived.Lib.AppendZerosOnto
import Derived.Lib.SliceRun
namespace Go.Proofs.YtpkiopijfhkagaaGreatDoor.wire
open Go.RowKit Go.Proofs.YtpkiopijfhkagaaGreatDoor.mem Go.Proofs.YtpkiopijfhkagaaGreatDoor.kit
set_option linter.unusedVariables false

/-- Bytes that were made: a row of the call's own. -/
def Got (w : World) (l : List UInt8) (e : Ending) (w' : World) : Prop := ∃ A c, e = .returned (.slice A l.length c) ∧ w'.ownsRow w.heap.size 5 1 (.slice A l.length c) l.length (vb l) ∧ New w w'
theorem Got.mk {w w' : World} {l : List UInt8} {v : Value} (ho : w'.ownsRow w.heap.size 5 1 v l.length (vb l)) (hn : New w w') : Got w l (.returned v) w' := by
  obtain ⟨A, c, rfl, _⟩ := own_len ho
  exact ⟨A, c, rfl, ho, hn⟩

set_option maxRecDepth 100000 in
theorem grow_any (n : Nat) (hn : n ≤ 1099511627776) (w : World) : Calls Tryz.prog 52 #[.slice none 0 0, .int .i64 n] w (Got w []) := by
  obtain ⟨i0, hi, hz0, hz1, hz2⟩ := info_parts byte_info
  rcases Nat.eq_zero_or_pos n with rfl | hpos
  · go_enter Tryz.func52, Tryz.ntmps52
    go_wp2
    go_ret
    exact Got.mk (World.ownsRow_nil _ _ _ _) (new_refl _)
  · have h1 : ¬ ((n : Int) < 0) := by omega
    have h4 : (0 : Int) < (n : Int) := by omega
    have hrz : ∀ ty, (Builtin.append_ #[23, 3] ty #[.slice none 0 0, .int .i64 (n : Int)]).run Tryz.prog w =
      .ok (.slice (some ⟨w.heap.size, 0, none⟩) n (grownCap w n 0 5)) (w.drew.alloc (.cells (#[] ++ Builtin.zeroCells (Value.int .u8 0).cells n ++ Builtin.zeroCells (Value.int .u8 0).cells (grownCap w n 0 5 - n)) 5)) := fun ty => by
      have h := Lib.run_append_grow_zeros w 23 3 ty 5 i0 _ .i64 .i64 Tryz.underlying23 Tryz.underlying3 hi hz0 none 0 0 [] (run_firstCells_none w.drew i0.size 0 0 0) n (by omega) (by omega) (by omega) (by omega)
        (by rw [hz2]; omega) (growslice_fits (by omega) (by rw [hz2]; omega))
      rw [Nat.zero_add] at h
      exact h
    have hG := grownCap_ge w n 0 5
    have hG2 := grownCap_le_maxLen w n 0 5 (by unfold maxLen; omega)
    generalize grownCap w n 0 5 = G at *
    generalize hcs : (#[] ++ Builtin.zeroCells (Value.int .u8 0).cells n ++ Builtin.zeroCells (Value.int .u8 0).cells (G - n)) = cs at *
    have hsz : cs.size = G := by rw [← hcs]; simp [size_zeroCells, Value.cells]; omega
    clear hcs
    have HS := Lib.hid hsz
    have HZ := Lib.hid hz1
    clear hsz hz1
    go_enter Tryz.func52, Tryz.ntmps52
    go_wp2_with (at_builtin; refine Lib.wpList_append_run _ rfl _ _ _ _ rfl _ _ rfl rfl _ _ (hrz _) ?_)
    go_ret
    exact Got.mk ⟨rfl, Or.inr ⟨_, G, cs, rfl, Nat.le_refl _, heap_alloc_new _ _, Nat.zero_le _, hG2, by rw [Nat.mul_one]; exact HS.out, by simp [vb]⟩⟩ ((Below.refl _ _).drew.alloc (Nat.le_refl _) _)

def nbyte (n : Int) (k : Nat) : UInt8 := UInt8.ofNat (IntKind.u64.wrap n / 2 ^ (8 * (7 - k)) % 256).toNat
theorem nbyte_eq (n : Int) (k : Nat) : IntKind.u64.wrap n / 2 ^ (8 * (7 - k)) % 256 = ((nbyte n k).toNat : Int) := by
  unfold nbyte
  generalize IntKind.u64.wrap n / 2 ^ (8 * (7 - k)) = x
  rw [UInt8.toNat_ofNat']
  omega
/-- A number's bytes. -/
def numB (n : Int) : List UInt8 := (List.range 8).map (nbyte n)
theorem numB_length (n : Int) : (numB n).length = 8 := by simp [numB]

set_option maxRecDepth 100000 in
theorem number_any (n : Int) (w : World) : Calls Tryz.prog 11 #[.int .i64 n] w (Got w (numB n)) := by
  have hmk : ∀ W : World, (Instr.makeSlice 23 (.int .i64 8) (.int .i64 8)).run Tryz.prog W = .ok (.slice (some ⟨W.heap.size, 0, none⟩) 8 8) (W.alloc (.cells (zrow (.int .u8 0) 8) 5)) := fun W => make_bytes 8 8 (by omega) (by omega) W
  go_enter Tryz.func11, Tryz.ntmps11
  go_wp2
  go_loopw [5, 11] (fun x i wr => ∃ (k : Nat) (ds : Array Value), k ≤ 8 ∧ i = .int .i64 k ∧ ds.size = 8 ∧ (∀ j, j < k → ds[j]? = some (.int .u8 ((nbyte n j).toNat : Int))) ∧ Blk wr w.heap.size 5 ds ∧ New w wr) (fun _ i _ => 8 - (intOf i).toNat)
  case atStart => exact ⟨0, _, Nat.zero_le _, rfl, zrow_size _ _, fun j hj => absurd hj (by omega), Blk.new _ _ _, (new_refl w).alloc (Nat.le_refl _) _⟩
  case round =>
    obtain ⟨k, ds, hk, rfl, hds, hall, hg, hn⟩ := hrel
    have HA := Lib.hid hall
    have HD := Lib.hid hds
    by_cases hlt : k < 8
    · have hgk := hg.cell k
      have hz := hg.frozen k
      obtain ⟨x, hx⟩ : ∃ x, ds[k]? = some x := ⟨_, Array.getElem?_eq_getElem (by omega)⟩
      rw [hx] at hgk
      clear hds hx hall
      go_wp2
      go_roundw
      case rel =>
        refine ⟨k + 1, _, by omega, by go_num, by rw [Array.size_setIfInBounds]; exact HD.out, fun j hj => ?_, hg.set_ k _, hn.setCell (Nat.le_refl _) _⟩
        rw [Array.getElem?_setIfInBounds]
        by_cases e : k = j
        · subst e
          rw [if_pos rfl, if_pos (by have := HD.out; omega), nbyte_eq]
        · rw [if_neg e]; exact HA.out j (by omega)
      case measure => simp [intOf]; omega
    · obtain rfl : k = 8 := by omega
      clear hds hall
      go_wp2
      go_ret
      have hds : ds = (vb (numB n)).toArray := by
        apply Array.ext_getElem?
        intro j
        by_cases hj : j < 8
        · rw [HA.out j hj]; simp [vb, numB, hj]
        · rw [Array.getElem?_eq_none (by have := HD.out; omega), Array.getElem?_eq_none (by simp [vb, numB]; omega)]
      subst hds
      refine Got.mk ⟨by simp [vb, numB], Or.inr ⟨_, 8, _, by rw [numB_length]; rfl, Nat.le_refl _, hg, by rw [numB_length]; omega, by simp [maxLen], by simp [vb, numB], by simp [numB_length]; rw [List.take_of_length_le (by simp [vb, numB])]⟩⟩ hn

/-- Slices that stand in a row, and what they read as. -/
def Parts (w : World) (vs : List Value) (ls : List (List UInt8)) : Prop :=
  vs.length = ls.length ∧ ∀ (k : Nat) (h : k < ls.length), ∃ A c, vs[k]? = some (.slice A ls[k].length c) ∧ Reads w w.heap.size 1 A ls[k].length (vb ls[k])
theorem Parts.new {w w' : World} {vs : List Value} {ls : List (List UInt8)} (h : Parts w vs ls) (hn : New w w') : Parts w' vs ls :=
  ⟨h.1, fun k hk => by obtain ⟨A, c, e, hr⟩ := h.2 k hk; exact ⟨A, c, e, hr.new hn⟩⟩
theorem flat_take (ls : List (List UInt8)) (k : Nat) (h : k < ls.length) : (ls.take (k + 1)).flatten = (ls.take k).flatten ++ ls[k] := by
  rw [← List.take_append_getElem h, List.flatten_append, List.flatten_singleton]
theorem flat_le (ls : List (List UInt8)) (k : Nat) : (ls.take k).flatten.length ≤ ls.flatten.length := by
  have h := congrArg (fun l : List (List UInt8) => l.flatten.length) (List.take_append_drop k ls)
  simp only [List.flatten_append, List.length_append] at h
  omega

/-- How long the first k parts are. -/
def plen (ls : List (List UInt8)) (k : Nat) : Nat := (ls.take k).flatten.length
theorem plen_succ (ls : List (List UInt8)) (k : Nat) (h : k < ls.length) : plen ls (k + 1) = plen ls k + ls[k].length := by
  unfold plen; rw [flat_take ls k h, List.length_append]
theorem plen_all (ls : List (List UInt8)) : plen ls ls.length = ls.flatten.length := by unfold plen; rw [List.take_length]
theorem plen_le (ls : List (List UInt8)) (k : Nat) : plen ls k ≤ ls.flatten.length := flat_le ls k

set_option maxRecDepth 100000 in
set_option maxHeartbeats 1000000 in
theorem concat_any (A : Option Addr) (c : Nat) (vs : List Value) (ls : List (List UInt8)) (w : World) (hp : Parts w vs ls) (hA : Reads w w.heap.size 1 A ls.length vs) (hk0 : ls.length ≤ 1099511627776) (ht0 : ls.flatten.length ≤ 1099511627776) :
    Calls Tryz.prog 37 #[.slice A ls.length c] w (Got w ls.flatten) := by
  obtain ⟨i0, hi, hz0, hz1, hz2⟩ := info_parts byte_info
  have HT := Lib.hid ht0
  clear ht0
  go_enter Tryz.func37, Tryz.ntmps37
  go_wp2
  go_loopw [3, 5, 11] (fun s x i wr => ∃ k : Nat, k ≤ ls.length ∧ i = .int .i64 k ∧ s = .int .i64 (plen ls k : Nat) ∧ New w wr) (fun _ _ i _ => ls.length - (intOf i).toNat)
  case atStart => exact ⟨0, Nat.zero_le _, rfl, rfl, new_refl _⟩
  case round =>
    obtain ⟨k, hk, rfl, rfl, hn⟩ := hrel
    by_cases hlt : k < ls.length
    · obtain ⟨a, u, rfl, ha, hx, hc⟩ := hA.at_ hlt
      obtain ⟨A', c', hv, hr⟩ := hp.2 k hlt
      rw [hx] at hv
      injection hv with hv
      subst hv
      have h1 := (hn.cell (p := a.add k) (by rw [block_of_add]; exact ha)).trans hc
      have hf := plen_succ ls k hlt
      have hle := plen_le ls (k + 1)
      have hT := HT.out
      have hf2 : (plen ls (k + 1) : Int) = (plen ls k : Int) + (ls[k].length : Int) := by rw [hf]; rfl
      have HF := Lib.hid hf2
      generalize plen ls k = s at *
      generalize ls[k].length = m at *
      have hb1 : (s : Int) + (m : Int) ≤ 1099511627776 := by omega
      have hs : ¬ ((s : Int) + (m : Int) < 0) := by omega
      clear hf hf2 hc hx hA hp hr hle hT
      go_wp2
      go_roundw
      case rel => exact ⟨k + 1, by omega, by go_num, by rw [HF.out], hn⟩
      case measure => simp [intOf]; omega
    · obtain rfl : k = ls.length := by omega
      have hpa := plen_all ls
      have g1 : plen ls ls.length ≤ 1099511627776 := by have := HT.out; omega
      have HP := Lib.hid hpa
      clear hpa
      go_wp2_with (go_at_call 52; refine (grow_any _ g1 _).mono ?_; rintro e w1 ⟨A1, c1, rfl, ho, hn1⟩)
      have hn1' : New w w1 := hn.then hn1
      have ho' := own_base ho hn.size
      clear ho hn1 hn
      go_loopw [6, 8, 27] (fun v x i wr => ∃ k : Nat, k ≤ ls.length ∧ i = .int .i64 k ∧ wr.ownsRow w.heap.size 5 1 v (plen ls k) (vb (ls.take k).flatten) ∧ New w wr) (fun _ _ i _ => ls.length - (intOf i).toNat)
      case atStart => exact ⟨0, Nat.zero_le _, rfl, ho', hn1'⟩
      case round =>
        clear ho' hn1'
        obtain ⟨k, hk, rfl, ho, hn⟩ := hrel
        by_cases hlt : k < ls.length
        · obtain ⟨a, u, rfl, ha, hx, hc⟩ := hA.at_ hlt
          obtain ⟨A', c', hv, hr⟩ := hp.2 k hlt
          rw [hx] at hv
          injection hv with hv
          subst hv
          have h1 := (hn.cell (p := a.add k) (by rw [block_of_add]; exact ha)).trans hc
          have hf := flat_take ls k hlt
          have hf2 := plen_succ ls k hlt
          have hle := plen_le ls (k + 1)
          have hb := hr.new hn
          have HO := Lib.hid ho
          have hT := HT.out
          have hlen : plen ls k + ls[k].length ≤ 1099511627776 := by omega
          have HF := Lib.hid hf
          have HF2 := Lib.hid hf2
          clear hc hx hA hp hr hle ho hf hT hf2
          go_wp2_with
            (at_builtin; refine wpList_append_any _ rfl (.tmp 31) (.tmp 32) 23 rfl w.heap.size 5 i0 _ 1 1 Tryz.underlying23 hi hz0 hz1 hz2 rfl (by omega) _ _ _ rfl HO.out _ A' ls[k].length c' (vb ls[k]) rfl hb (vb_one _) (by unfold maxLen; omega) (by omega) hn.size ?_; intro v2 w2 hown2 hg2 _)
          have hb2 : New w w2 := hn.grown hg2 hn.size (fun j hj => (HO.out.lt j hj).1)
          rw [← vb_append, ← HF.out, ← HF2.out] at hown2
          go_roundw
          case rel => exact ⟨k + 1, by omega, by go_num, hown2, hb2⟩
          case measure => simp [intOf]; omega
        · obtain rfl : k = ls.length := by omega
          rw [List.take_length, HP.out] at ho
          have HO := Lib.hid ho
          clear ho hA hp
          go_wp2
          go_ret
          exact Got.mk HO.out hn

/-- Parts, one behind the other. -/
def catB (ls : List (List UInt8)) : List UInt8 := ls.flatten

theorem join_any (A : Option Addr) (n c : Nat) (vs : List Value) (ls : List (List UInt8)) (w : World) (hnl : n = ls.length) (hp : Parts w vs ls) (hA : Reads w w.heap.size 1 A n vs) (hk0 : ls.length ≤ 1099511627776) (ht : (catB ls).length ≤ 1099511627776) :
    Calls Tryz.prog 15 #[.slice A n c] w (Got w (catB ls)) := by
  subst hnl
  have h := fun w (hp : Parts w vs ls) (hA : Reads w w.heap.size 1 A ls.length vs) => concat_any A c vs ls w hp hA hk0 ht
  rw [show ls.flatten = catB ls from rfl] at h
  have HC := Lib.hid h
  clear h
  go_enter Tryz.func15, Tryz.ntmps15
  go_wp2_with (go_at_call 37; refine (HC.out _ hp hA).mono ?_; rintro e w1 ⟨A1, c1, rfl, ho, hn⟩)
  go_ret
  exact ⟨_, _, rfl, ho, hn⟩

end Go.Proofs.YtpkiopijfhkagaaGreatDoor.wire
