/-
  The closed law of layer 9: drawn sizes, drawn places, both ends of the numbers.
-/
import Derived.Test.YtgddfclclibcgaaDoorPkI
namespace Go.Proofs.YtgddfclclibcgaaDoor.pk
open Go.RowKit Go.Proofs.YtgddfclclibcgaaDoor.mem Go.Proofs.YtgddfclclibcgaaDoor.kit
set_option linter.unusedVariables false
set_option linter.unusedSimpArgs false

def allB : List UInt8 := [129, 2, 3, 4, 5, 6, 7, 8, 9, 10, 11, 252]
def allC : Array Value := #[.int .u8 129, .int .u8 2, .int .u8 3, .int .u8 4, .int .u8 5, .int .u8 6, .int .u8 7, .int .u8 8, .int .u8 9, .int .u8 10, .int .u8 11, .int .u8 252]
def endC : Array Value := #[.int .i64 (-9223372036854775808), .int .i64 (-9223372036854775801), .int .i64 (-256), .int .i64 (-8), .int .i64 2147483648, .int .i64 4294967296, .int .i64 9223372036854775800, .int .i64 9223372036854775807]
def sizC : Array Value := #[.int .i64 (-9223372036854775808), .int .i64 (-8), .int .i64 (-1), .int .i64 0, .int .i64 1, .int .i64 2, .int .i64 3, .int .i64 4, .int .i64 5, .int .i64 6, .int .i64 7, .int .i64 8, .int .i64 9, .int .i64 16, .int .i64 4294967296, .int .i64 9223372036854775807]
theorem endC_at : ∀ k : Nat, k < 8 → ∃ x : Int, endC[k]? = some (.int .i64 x) := fun k hk => by
  match k, hk with
  | 0, _ => exact ⟨_, rfl⟩
  | 1, _ => exact ⟨_, rfl⟩
  | 2, _ => exact ⟨_, rfl⟩
  | 3, _ => exact ⟨_, rfl⟩
  | 4, _ => exact ⟨_, rfl⟩
  | 5, _ => exact ⟨_, rfl⟩
  | 6, _ => exact ⟨_, rfl⟩
  | 7, _ => exact ⟨_, rfl⟩
theorem sizC_at : ∀ k : Nat, k < 16 → ∃ x : Int, sizC[k]? = some (.int .i64 x) := fun k hk => by
  rcases k with _ | _ | _ | _ | _ | _ | _ | _ | _ | _ | _ | _ | _ | _ | _ | _ | k
  all_goals first | exact ⟨_, rfl⟩ | omega
theorem reads_take {W : World} {B n k : Nat} {A : Option Addr} {l : List UInt8} (h : Reads W B 1 A n (vb l)) (hk : k ≤ n) : Reads W B 1 A k (vb (l.take k)) := by
  have hl : (vb l).length = n := by have := h.1; rwa [Nat.mul_one] at this
  rw [vb_length] at hl
  refine ⟨by rw [vb_length, List.length_take]; omega, fun h0 => ?_⟩
  obtain ⟨ad, e, hb, hc⟩ := h.2 (by omega)
  refine ⟨ad, e, hb, fun j u hu => hc j u ?_⟩
  have hj : j < (l.take k).length := by
    have := (List.getElem?_eq_some_iff.1 hu).1
    rwa [vb_length] at this
  rw [vb_get _ j hj] at hu
  rw [vb_get l j (by rw [List.length_take] at hj; omega), ← hu]
  simp

/-- The three tables of the closed law. -/
structure PN (w W : World) : Prop where
  all : Blk W w.heap.size 5 allC
  ends : Blk W (w.heap.size + 1) 2 endC
  sizes : Blk W (w.heap.size + 1 + 1) 3 sizC
  keep : New w W
theorem PN.new {w W W' : World} (h : PN w W) (hn : New W W') : PN w W' := ⟨h.all.below hn h.all.lt, h.ends.below hn h.ends.lt, h.sizes.below hn h.sizes.lt, New.then h.keep hn⟩
theorem PN.drew {w W : World} (h : PN w W) : PN w W.drew := h.new (Below.drew (new_refl W))
theorem PN.made (w : World) : PN w (((w.alloc (.cells allC 5)).alloc (.cells endC 2)).alloc (.cells sizC 3)) := by
  have n1 := alloc_new w (.cells allC 5)
  have n2 := alloc_new (w.alloc (.cells allC 5)) (.cells endC 2)
  have n3 := alloc_new ((w.alloc (.cells allC 5)).alloc (.cells endC 2)) (.cells sizC 3)
  have b1 := Blk.new w 5 allC
  have b2 := Blk.new (w.alloc (.cells allC 5)) 2 endC
  have b3 := Blk.new ((w.alloc (.cells allC 5)).alloc (.cells endC 2)) 3 sizC
  have e1 : (w.alloc (.cells allC 5)).heap.size = w.heap.size + 1 := by simp
  have e2 : ((w.alloc (.cells allC 5)).alloc (.cells endC 2)).heap.size = w.heap.size + 1 + 1 := by simp
  refine ⟨(b1.below n2 b1.lt).below n3 (b1.below n2 b1.lt).lt, ?_, ?_, New.then (New.then n1 n2) n3⟩
  · have := b2.below n3 b2.lt; rwa [e1] at this
  · rwa [e2] at b3
theorem PN.size {w W : World} (h : PN w W) {k : Nat} {x : Int} (hx : sizC[k]? = some (.int .i64 x)) : W.cell? ⟨w.heap.size + 1 + 1, k, none⟩ = some (.int .i64 x) := (h.sizes.cell k).trans hx
theorem PN.end_ {w W : World} (h : PN w W) {k : Nat} {x : Int} (hx : endC[k]? = some (.int .i64 x)) : W.cell? ⟨w.heap.size + 1, k, none⟩ = some (.int .i64 x) := (h.ends.cell k).trans hx
theorem PN.reads {w W : World} (h : PN w W) {i : Nat} (hi : i ≤ 12) : Reads W W.heap.size 1 (some ⟨w.heap.size, 0, none⟩) i (vb (allB.take i)) := by
  have hb : Bq W w.heap.size 12 allB := Bq.of (L := allB) h.all
  exact reads_take (hb.reads 12 rfl) hi
theorem PN.gets {w W : World} (h : PN w W) (hT : SzT w) {i : Nat} (hi : i ≤ 12) (p k : Int) : Calls Tryd.prog 9 #[.slice (some ⟨w.heap.size, 0, none⟩) i i, .int .i64 p, .int .i64 k] W fun e w' => e = .returned (.bool true) ∧ PN w w' := by
  have hl : i = (allB.take i).length := by rw [List.length_take, Nat.min_eq_left (by exact hi)]
  exact (gets_any (some ⟨w.heap.size, 0, none⟩) i i p k (allB.take i) W (hT.new h.keep) hl (Nat.le_refl _) (by unfold maxLen; omega) (h.reads hi)).mono fun e w' q => ⟨q.1, h.new q.2⟩
theorem PN.sets {w W : World} (h : PN w W) (hT : SzT w) {i : Nat} (hi : i ≤ 12) (p k : Int) (v : Nat) (hv : v < 18446744073709551616) : Calls Tryd.prog 11 #[.slice (some ⟨w.heap.size, 0, none⟩) i 12, .int .i64 p, .int .i64 k, .int .u64 (v : Int)] W fun e w' => e = .returned (.bool true) ∧ PN w w' := by
  have hl : i = (allB.take i).length := by rw [List.length_take, Nat.min_eq_left (by exact hi)]
  exact (sets_any (some ⟨w.heap.size, 0, none⟩) i 12 p k v (allB.take i) W (hT.new h.keep) hl (by omega) hv (h.reads hi)).mono fun e w' q => ⟨q.1, h.new q.2⟩

theorem PN.sets1 {w W : World} (h : PN w W) (hT : SzT w) {i : Nat} (hi : i ≤ 12) (p k : Int) : Calls Tryd.prog 11 #[.slice (some ⟨w.heap.size, 0, none⟩) i 12, .int .i64 p, .int .i64 k, .int .u64 81985529216486895] W fun e w' => e = .returned (.bool true) ∧ PN w w' := h.sets hT hi p k 81985529216486895 (by decide)
theorem PN.sets2 {w W : World} (h : PN w W) (hT : SzT w) {i : Nat} (hi : i ≤ 12) (p k : Int) : Calls Tryd.prog 11 #[.slice (some ⟨w.heap.size, 0, none⟩) i 12, .int .i64 p, .int .i64 k, .int .u64 18446744073709551615] W fun e w' => e = .returned (.bool true) ∧ PN w w' := h.sets hT hi p k 18446744073709551615 (by decide)

set_option maxRecDepth 100000 in
set_option maxHeartbeats 4000000 in
theorem PacketNumbers_any (w : World) (hT : SzT w) : Calls Tryd.prog 5 #[] w fun e w' => e = .returned (.bool true) ∧ New w w' := by
  have HAW := Lib.hid (fun W hW => awake_any W (hT.new (w' := W) hW))
  have HP0 := Lib.hid (PN.made w)
  go_enter Tryd.func5, Tryd.ntmps5
  go_wp2_with fail
  go_loopw [4] (fun iv wr => ∃ i : Nat, i ≤ 13 ∧ iv = .int .i64 (i : Int) ∧ Hid (PN w wr)) (fun iv _ => 13 - (intOf iv).toNat)
  case atStart => exact ⟨0, Nat.zero_le _, rfl, HP0⟩
  case round =>
    obtain ⟨i, hi, rfl, HP⟩ := hrel
    by_cases hlt : i < 13
    · have t1 : (i : Int) ≤ 12 := by omega
      go_wp2_with fail
      go_loopw [5] (fun jv wj => ∃ j : Nat, j ≤ 16 ∧ jv = .int .i64 (j : Int) ∧ Hid (PN w wj)) (fun jv _ => 16 - (intOf jv).toNat)
      case atStart => exact ⟨0, Nat.zero_le _, rfl, HP⟩
      case round =>
        obtain ⟨j, hj, rfl, HPJ⟩ := hrel
        by_cases hlj : j < 16
        · have t2 : (j : Int) < 16 := by omega
          obtain ⟨s, hs⟩ := sizC_at j hlj
          have HS := Lib.hid hs
          clear hs
          go_wp2_with fail
          go_loopw [6] (fun av wa => ∃ a : Nat, a ≤ 16 ∧ av = .int .i64 ((a : Int) - 2) ∧ Hid (PN w wa)) (fun av _ => 16 - (intOf av + 2).toNat)
          case atStart => exact ⟨0, Nat.zero_le _, rfl, HPJ⟩
          case round =>
            obtain ⟨a, ha, rfl, HPA⟩ := hrel
            by_cases hla : a < 16
            · have t3 : (a : Int) - 2 < 14 := by omega
              have hs0 := HPA.out.drew.size HS.out
              go_wp2_with fail
              have HG := Lib.hid (HPA.out.drew.gets hT (i := i) (by omega) ((a : Int) - 2) s)
              go_region_held3 (fun w' => w'.cell? ⟨w.heap.size + 1 + 1, j, none⟩ = some (.int .i64 s))
                (go_keep)
                (first
                  | (go_at_call 9; (with_reducible refine HG.out.mono ?_); rintro e w5 ⟨rfl, hp5⟩; have HP5 := Lib.hid hp5; have HS5 := Lib.hid (hp5.sets1 hT (i := i) (by omega) ((a : Int) - 2) s); have hs5 := hp5.size HS.out; clear hp5)
                  | (go_at_call 11; (with_reducible refine HS5.out.mono ?_); rintro e w6 ⟨rfl, hp6⟩; have HP6 := Lib.hid hp6; have hs6 := hp6.size HS.out; clear hp6)
                  | fail)
              go_wp2_with fail
              go_roundw
              case rel =>
                first | exact ⟨a + 1, by omega, by go_num, HP6⟩ | ((repeat apply Exists.intro); refine ⟨?_, rfl⟩; exact ⟨a + 1, by omega, by go_num, HP6⟩)
              case measure => simp [intOf]; omega
            · obtain rfl : a = 16 := by omega
              go_wp2_with fail
              go_loopw [7] (fun bv wb => ∃ b : Nat, b ≤ 8 ∧ bv = .int .i64 (b : Int) ∧ Hid (PN w wb)) (fun bv _ => 8 - (intOf bv).toNat)
              case atStart => exact ⟨0, Nat.zero_le _, rfl, HPA⟩
              case round =>
                obtain ⟨b, hb, rfl, HPB⟩ := hrel
                by_cases hlb : b < 8
                · have t4 : (b : Int) < 8 := by omega
                  obtain ⟨x, hx⟩ := endC_at b hlb
                  have HX := Lib.hid hx
                  clear hx
                  have hs0 := HPB.out.drew.size HS.out
                  have hx0 := HPB.out.drew.end_ HX.out
                  have HG := Lib.hid (HPB.out.drew.gets hT (i := i) (by omega) x s)
                  go_wp2_with fail
                  go_region_held3 (fun w' => w'.cell? ⟨w.heap.size + 1 + 1, j, none⟩ = some (.int .i64 s) ∧ w'.cell? ⟨w.heap.size + 1, b, none⟩ = some (.int .i64 x))
                    (go_keep)
                    (first
                      | (go_at_call 9; (with_reducible refine HG.out.mono ?_); rintro e w5 ⟨rfl, hp5⟩; have HP5 := Lib.hid hp5; have HS5 := Lib.hid (hp5.sets2 hT (i := i) (by omega) x s); have hs5 := hp5.size HS.out; have hx5 := hp5.end_ HX.out; clear hp5)
                      | (go_at_call 11; (with_reducible refine HS5.out.mono ?_); rintro e w6 ⟨rfl, hp6⟩; have HP6 := Lib.hid hp6; have hs6 := hp6.size HS.out; have hx6 := hp6.end_ HX.out; clear hp6)
                      | fail)
                  go_wp2_with fail
                  go_roundw
                  case rel =>
                    first | exact ⟨b + 1, by omega, by go_num, HP6⟩ | ((repeat apply Exists.intro); refine ⟨?_, rfl⟩; exact ⟨b + 1, by omega, by go_num, HP6⟩)
                  case measure => simp [intOf]; omega
                · obtain rfl : b = 8 := by omega
                  go_wp2_with fail
                  go_roundw
                  case rel =>
                    first | exact ⟨j + 1, by omega, by go_num, HPB⟩ | ((repeat apply Exists.intro); refine ⟨?_, rfl⟩; exact ⟨j + 1, by omega, by go_num, HPB⟩)
                  case measure => simp [intOf]; omega
        · obtain rfl : j = 16 := by omega
          go_wp2_with fail
          go_roundw
          case rel =>
            first | exact ⟨i + 1, by omega, by go_num, HPJ⟩ | ((repeat apply Exists.intro); refine ⟨?_, rfl⟩; exact ⟨i + 1, by omega, by go_num, HPJ⟩)
          case measure => simp [intOf]; omega
    · obtain rfl : i = 13 := by omega
      have HA := Lib.hid (HAW.out wr HP.out.keep)
      have HNW := Lib.hid HP.out.keep
      go_wp2_with (first
        | (go_at_call 7; (with_reducible refine HA.out.mono ?_); rintro e w6 ⟨rfl, hn6⟩; have HN6 := Lib.hid (New.then HNW.out hn6); clear hn6)
        | fail)
      go_ret
      exact ⟨rfl, HN6.out⟩
end Go.Proofs.YtgddfclclibcgaaDoor.pk
