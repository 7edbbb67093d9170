/-
  Lists of bytes that lie apart: the walk of the check.
-/
import Derived.Test.YtpkiopijfhkagaaGreatDoorFam
import Derived.Test.YtpkiopijfhkagaaGreatDoorWireB
import Derived.Deep.RegionHeld3
namespace Go.Proofs.YtpkiopijfhkagaaGreatDoor.kit
open Go.RowKit Go.Proofs.YtpkiopijfhkagaaGreatDoor.mem Go.Proofs.YtpkiopijfhkagaaGreatDoor.wire
set_option linter.unusedVariables false

theorem rows_info : (Tryz.prog.info? 23).map (fun i => (i.zero, i.size, i.bytes)) = some (some (.slice none 0 0), 1, 24) := by kernel_rfl
theorem make_rows (n : Nat) (hc : n ≤ 1000000) (W : World) :
    (Instr.makeSlice 39 (.int .i64 (n : Int)) (.int .i64 (n : Int))).run Tryz.prog W = .ok (.slice (some ⟨W.heap.size, 0, none⟩) n n) (W.alloc (.cells (zrow (.slice none 0 0) n) 23)) := by
  obtain ⟨i0, hi, hz0, hz1, hz2⟩ := info_parts rows_info
  have hr := run_make (P := Tryz.prog) W 39 23 i0 _ Tryz.underlying39 hi hz0 .i64 .i64 n n (by omega) (by omega) (by rw [hz2]; omega) (by omega)
  simp only [Int.toNat_natCast, hz1, Nat.mul_one] at hr
  exact hr

theorem zrow_one (n : Nat) : ∀ u ∈ (zrow (.int .u8 0) n).toList, u.oneCell' = true := by
  intro u hu
  simp [zrow, madeCells] at hu
  obtain ⟨a, _, rfl⟩ := hu
  have e : (Value.int .u8 0).cells = #[.int .u8 0] := rfl
  rw [e]
  have : a % (#[Value.int IntKind.u8 0] : Array Value).size = 0 := Nat.mod_one a
  rw [this]
  rfl

def Full2 (ns : List Nat) (k : Nat) (xs : List Value) : Prop := xs = rowOf k (ns[k]! + 64)

set_option maxRecDepth 100000 in
set_option maxHeartbeats 2000000 in
theorem flat_scr (w0 : World) (B : Nat) (A : Option Addr) (C : Nat) (vs : List Value) (ns : List Nat) (w : World) (hB : B ≤ w0.heap.size) (hK : ns.length ≤ 1000000) (hns : ∀ k (h : k < ns.length), ns[k] ≤ 1099511627776) (h : FS w0 B (.slice A ns.length C) vs ns (fun _ _ => True) w) :
    Calls Tryz.prog 58 #[.slice A ns.length C] w fun e w' => e = .returned (.bool true) ∧ Ch (InRows vs) w0 w' := by
  have h0 : FS w0 B (.slice A ns.length C) vs ns (Mk 0 0) w := h.any (fun k xs _ j hj _ => absurd hj (by omega))
  clear h
  go_enter Tryz.func58, Tryz.ntmps58
  go_wp2
  go_loopw [3, 4] (fun kk ii wr => ∃ k : Nat, k ≤ ns.length ∧ kk = .int .i64 k ∧ FS w0 B (.slice A ns.length C) vs ns (Mk k 0) wr) (fun kk _ _ => ns.length - (intOf kk).toNat)
  case atStart => exact ⟨0, Nat.zero_le _, rfl, h0⟩
  case round =>
    clear h0
    obtain ⟨k, hk, rfl, hF⟩ := hrel
    by_cases hlt : k < ns.length
    · have hd : decide (k < ns.length) = true := by simpa using hlt
      obtain ⟨gl, rfl, hhead⟩ := hF.head hlt
      obtain ⟨Ak, ck, xk, hvk, hok, _⟩ := hF.each k hlt
      have hnk := hns k hlt
      have hc := hhead k hlt
      rw [hvk] at hc
      clear hhead hok
      have HNS := Lib.hid hns
      clear hns
      go_wp2
      obtain ⟨wo, rfl⟩ : ∃ wo : World, wo = wr := ⟨_, rfl⟩
      go_loopw [4] (fun ii wr => ∃ i : Nat, i ≤ ns[k] ∧ ii = .int .i64 i ∧ FS w0 B (.slice (some ⟨gl, 0, none⟩) ns.length C) vs ns (Mk k i) wr) (fun ii _ => ns[k] - (intOf ii).toNat)
      case atStart => exact ⟨0, Nat.zero_le _, rfl, hF⟩
      case round =>
        clear hF hc
        obtain ⟨i, hi, rfl, hF⟩ := hrel
        have hc := (hF.head hlt)
        obtain ⟨gl', e, hhead⟩ := hc
        injection e with e
        injection e with e
        subst e
        have hc := hhead k hlt
        rw [hvk] at hc
        clear hhead
        by_cases hli : i < ns[k]
        · obtain ⟨A2, c2, x2, hv2, ho2, _⟩ := hF.each k hlt
          rw [hvk] at hv2
          injection hv2 with hv2
          injection hv2 with eA _ ec
          subst eA
          subst ec
          obtain ⟨g, cur, rfl, hBg, hblk, hsz, _, _⟩ := own_some ho2 (by omega)
          have hst := hF.store hlt hli hvk
          have HST := Lib.hid hst
          obtain ⟨x, hx⟩ : ∃ x, cur[i]? = some x := ⟨_, Array.getElem?_eq_getElem (by omega)⟩
          have hcell := hblk.cell i
          rw [hx] at hcell
          have hz := hblk.frozen i
          clear hst hx ho2 hsz
          have hgl : ∃ curl, Blk wr gl 23 curl := by obtain ⟨g', cur', e, _, hb', _⟩ := own_some hF.row (by omega); injection e with e; injection e with e; subst e; exact ⟨_, hb'⟩
          obtain ⟨curl, hgl⟩ := hgl
          have hne1 : gl ≠ g := hgl.ne_ hblk (by decide)
          have hne2 : ¬ g = gl := fun e => hne1 e.symm
          clear hF hgl hblk
          go_wp2
          go_region_held3 (fun w' => w'.cell? ⟨gl, k, none⟩ = some (.slice (some ⟨g, 0, none⟩) ns[k] ck)) (go_keep)
            ((go_at_call 35; refine (markByte_any _ _ _).mono ?_; rintro e w2 ⟨rfl, rfl⟩))
          go_wp2
          go_roundw
          case rel => exact ⟨i + 1, by omega, by go_num, HST.out.drew1⟩
          case measure => simp [intOf]; omega
        · obtain rfl : i = ns[k] := by omega
          have hnx := FS.next (t := k) (by rw [getElem!_pos ns k hlt]; exact hF) hlt
          clear hF
          go_wp2
          go_roundw
          case rel => exact ⟨k + 1, by omega, by go_num, hnx⟩
          case measure => simp [intOf]; omega
    · obtain rfl : k = ns.length := by omega
      clear hlt hk
      have h0 := hF.full
      clear hF
      have hmk := fun W => make_rows ns.length hK W
      have HNS := Lib.hid hns
      clear hns
      go_wp2
      clear hmk
      obtain ⟨gb, hgb⟩ : ∃ gb : Nat, gb = wr.heap.size := ⟨_, rfl⟩
      rw [← hgb]
      have hBw : B ≤ wr.heap.size := Nat.le_trans hB h0.below.size
      have hnew : New wr (wr.alloc (.cells (zrow (.slice none 0 0) ns.length) 23)) := Ch.below ((Ch.refl (fun _ => False) _).alloc _) (Nat.le_refl _) (fun _ _ hf => hf.elim)
      have hF0 := h0.more hnew hBw
      have hgb0 : w0.heap.size ≤ gb := by rw [hgb]; exact h0.below.size
      have hne : (Value.slice A ns.length C).ownBlock ≠ some gb := fun e => by have := (own_lt h0.row e).2.1; omega
      have hG0 : GS B gb vs (zrow (.slice none 0 0) ns.length).toList ns 0 (Full2 ns) (wr.alloc (.cells (zrow (.slice none 0 0) ns.length) 23)) :=
        ⟨by rw [hgb, Array.toArray_toList]; exact Blk.new _ _ _, by rw [Array.length_toList, zrow_size], by omega, fun _ _ h => absurd h (by omega), fun _ _ h => absurd h (by omega)⟩
      have hs0 : B ≤ (wr.alloc (.cells (zrow (.slice none 0 0) ns.length) 23)).heap.size := Nat.le_trans hBw hnew.size
      clear h0 hnew hBw
      obtain ⟨w3, hw3⟩ : ∃ w3, w3 = wr.alloc (.cells (zrow (.slice none 0 0) ns.length) 23) := ⟨_, rfl⟩
      rw [← hw3] at hF0 hG0 hs0 ⊢
      clear hw3 hgb
      go_loopw [6, 7, 8] (fun kk _ _ wr => ∃ k : Nat, ∃ us, k ≤ ns.length ∧ kk = .int .i64 k ∧ B ≤ wr.heap.size ∧ FS w0 B (.slice A ns.length C) vs ns (Full ns) wr ∧ GS B gb vs us ns k (Full2 ns) wr) (fun kk _ _ _ => ns.length - (intOf kk).toNat)
      case atStart => exact ⟨0, _, Nat.zero_le _, rfl, hs0, hF0, hG0⟩
      case round =>
        clear hF0 hG0 hs0
        obtain ⟨k, us, hk, rfl, hBw, hF, hG⟩ := hrel
        by_cases hlt : k < ns.length
        · have hd : decide (k < ns.length) = true := by simpa using hlt
          obtain ⟨gl, rfl, hhead⟩ := hF.head hlt
          obtain ⟨Ak, ck, xk, hvk, hok, hxk⟩ := hF.each k hlt
          have hnk := HNS.out k hlt
          have hc := hhead k hlt
          rw [hvk] at hc
          have hxe : xk = rowOf k ns[k] := by unfold Full at hxk; rw [getElem!_pos ns k hlt] at hxk; exact hxk
          subst hxe
          clear hhead hxk
          obtain ⟨wo, hwo⟩ : ∃ wo : World, wo = wr := ⟨_, rfl⟩
          have ht0 := Twin.start hok
          clear hok
          have HF := Lib.hid hF
          have HG := Lib.hid hG
          have HVK := Lib.hid hvk
          have HNE := Lib.hid hne
          clear hF hG hvk hne
          go_wp2
          subst hwo
          go_loopw [7, 8] (fun gg ii w' => ∃ (i : Nat) (Ag : Option Addr) (cg : Nat), i ≤ 64 ∧ ii = .int .i64 i ∧ gg = .slice Ag (ns[k] + i) cg ∧ Twin wo w' B 5 (.slice Ak ns[k] ck) ns[k] (.slice Ag (ns[k] + i) cg) (ns[k] + i) (rowOf k (ns[k] + i))) (fun _ ii _ => 64 - (intOf ii).toNat)
          case atStart => exact ⟨0, Ak, ck, Nat.zero_le _, rfl, rfl, ht0⟩
          case round =>
            clear ht0 hc
            obtain ⟨i, Ag, cg, hi, rfl, rfl, ht⟩ := hrel
            have hF := HF.out.twin hlt HVK.out ht (rowOf_take k _ _ (by omega)) hBw
            obtain ⟨gl', e, hhead⟩ := hF.head hlt
            injection e with e
            injection e with e
            subst e
            have hc := hhead k hlt
            rw [HVK.out] at hc
            clear hhead
            have HT := Lib.hid ht
            have HF' := Lib.hid hF
            clear ht hF
            have hBr : B ≤ wr.heap.size := Nat.le_trans hBw HT.out.ch.size
            by_cases hli : i < 64
            · obtain ⟨i0, hi0, hz0, hz1, hz2⟩ := info_parts byte_info
              go_wp2_with (first
                | (go_at_call 35; refine (markByte_any _ _ _).mono ?_; rintro e w2 ⟨rfl, rfl⟩)
                | (at_builtin; refine wpList_append_two _ rfl (.tmp 57) (.tmp 67) 23 rfl B 5 i0 _ 1 Tryz.underlying23 hi0 hz0 hz1 hz2 rfl (.slice Ag (ns[k] + i) cg) _ _ rfl (HT.out.more ((new_refl _).alloc (Nat.le_refl _) _)).new _ _ 1 1 _ rfl (reads_new _ _ _) (by simp [Value.oneCell']) (by unfold maxLen; omega) (by omega) (by simp; omega) ?_; intro v2 w2 hl2))
              have ht2 := (HT.out.more ((new_refl _).alloc (Nat.le_refl _) _)).step hl2
              have e2 : rowOf k (ns[k] + i) ++ [Value.int .u8 ((mkB (k : Int) ((ns[k] : Int) + (i : Int))).toNat : Int)] = rowOf k (ns[k] + i + 1) := by rw [rowOf_succ, mkV, Int.natCast_add]
              rw [e2] at ht2
              obtain ⟨A', c', hv2, _⟩ := own_len ht2.new
              subst hv2
              go_roundw
              case rel => exact ⟨i + 1, A', c', by omega, by go_num, rfl, ht2⟩
              case measure => simp [intOf]; omega
            · obtain rfl : i = 64 := by omega
              have hG := HG.out.twin HF.out hlt HVK.out HT.out
              have hcell := hG.row.cell k
              have hfr := hG.row.frozen k
              obtain ⟨x, hx⟩ : ∃ x, us.toArray[k]? = some x := ⟨_, Array.getElem?_eq_getElem (by have := hG.len; simp; omega)⟩
              rw [hx] at hcell
              have hnx := hG.put HF.out hlt HVK.out HT.out (by unfold Full2; rw [getElem!_pos ns k hlt])
              have hfx := HF'.out.far hgb0 hG.row HNE.out k (.slice Ag (ns[k] + 64) cg)
              have HNX := Lib.hid hnx
              have HFX := Lib.hid hfx
              clear hG hx hnx hfx
              go_wp2
              go_roundw
              case rel => exact ⟨k + 1, _, by omega, by go_num, by simpa using hBr, HFX.out, HNX.out⟩
              case measure => simp [intOf]; omega
        · obtain rfl : k = ns.length := by omega
          have HF := Lib.hid hF
          have HG := Lib.hid hG
          have HNE := Lib.hid hne
          clear hlt hk hF hG hne
          go_wp2
          obtain ⟨w4, hw4⟩ : ∃ w4, w4 = wr := ⟨_, rfl⟩
          rw [← hw4] at hBw HF HG ⊢
          clear hw4
          go_loopw [9, 10] (fun kk _ wr => ∃ (k : Nat), k ≤ ns.length ∧ kk = .int .i64 k ∧ B ≤ wr.heap.size ∧ FS w0 B (.slice A ns.length C) vs ns (Full ns) wr ∧ GS B gb vs us ns ns.length (Full2 ns) wr) (fun kk _ _ => ns.length - (intOf kk).toNat)
          case atStart => exact ⟨0, Nat.zero_le _, rfl, hBw, HF.out, HG.out⟩
          case round =>
            clear HF HG hBw
            obtain ⟨k, hk, rfl, hBw, hF, hG⟩ := hrel
            by_cases hlt : k < ns.length
            · have hd : decide (k < ns.length) = true := by simpa using hlt
              have hnk := HNS.out k hlt
              have HF := Lib.hid hF
              have HG := Lib.hid hG
              clear hF hG
              go_wp2
              go_loopw [10] (fun ii wr => ∃ (i : Nat), i ≤ ns[k] + 64 ∧ ii = .int .i64 i ∧ B ≤ wr.heap.size ∧ FS w0 B (.slice A ns.length C) vs ns (Full ns) wr ∧ GS B gb vs us ns ns.length (Full2 ns) wr) (fun ii _ => ns[k] + 64 - (intOf ii).toNat)
              case atStart => exact ⟨0, Nat.zero_le _, rfl, hBw, HF.out, HG.out⟩
              case round =>
                clear HF HG hBw
                obtain ⟨i, hi, rfl, hBw, hF, hG⟩ := hrel
                obtain ⟨Ag, cg, ys, hug, hog, hyg⟩ := hG.each k hlt hlt
                have hcg := hG.row.cell k
                rw [List.getElem?_toArray, hug] at hcg
                by_cases hli : i < ns[k] + 64
                · obtain ⟨gg, curg, rfl, _, hbg, _, _, hyc⟩ := own_some hog (by omega)
                  have hcgi := hbg.cell i
                  unfold Full2 at hyg
                  rw [getElem!_pos ns k hlt] at hyg
                  rw [hyc i hli, hyg, rowOf_get k _ i hli, mkV] at hcgi
                  obtain ⟨gl, rfl, hhead⟩ := hF.head hlt
                  obtain ⟨Ak, ck, xk, hvk, hok, hxk⟩ := hF.each k hlt
                  have hcl := hhead k hlt
                  rw [hvk] at hcl
                  have HF := Lib.hid hF
                  have HG := Lib.hid hG
                  by_cases hl2 : i < ns[k]
                  · obtain ⟨ga, cura, rfl, _, hba, _, _, hxc⟩ := own_some hok (by omega)
                    have hcli := hba.cell i
                    unfold Full at hxk
                    rw [getElem!_pos ns k hlt] at hxk
                    rw [hxc i hl2, hxk, rowOf_get k _ i hl2, mkV] at hcli
                    have hd2 : decide (i < ns[k]) = true := by simpa using hl2
                    have hd3 : decide (i < ns[k] + 64) = true := by simpa using hli
                    clear hF hG hhead hok hog hbg hba hyc hxc hyg hxk hug hvk
                    go_wp2
                    go_quiet ((go_at_call 35; exact Calls.quiet_of_same ((markByte_any _ _ _).mono (fun _ _ h => ⟨h.1, h.2.symm⟩))))
                    go_wp2
                    go_roundw
                    case rel => exact ⟨i + 1, by omega, by go_num, hBw, HF.out.drew _, HG.out.drew _⟩
                    case measure => simp [intOf]; omega
                  · have hd2 : decide (i < ns[k]) = false := by simpa using hl2
                    have hd3 : decide (i < ns[k] + 64) = true := by simpa using hli
                    clear hF hG hhead hok hog hbg hyc hyg hxk hug hvk
                    go_wp2
                    go_quiet ((go_at_call 35; exact Calls.quiet_of_same ((markByte_any _ _ _).mono (fun _ _ h => ⟨h.1, h.2.symm⟩))))
                    go_wp2
                    go_roundw
                    case rel => exact ⟨i + 1, by omega, by go_num, hBw, HF.out.drew _, HG.out.drew _⟩
                    case measure => simp [intOf]; omega
                · obtain rfl : i = ns[k] + 64 := by omega
                  have HF := Lib.hid hF
                  have HG := Lib.hid hG
                  clear hF hG hog hyg hug
                  go_wp2
                  go_roundw
                  case rel => exact ⟨k + 1, by omega, by go_num, hBw, HF.out, HG.out⟩
                  case measure => simp [intOf]; omega
            · obtain rfl : k = ns.length := by omega
              have HF := Lib.hid hF
              have HG := Lib.hid (show GS B gb vs us ns ns.length (Pre ns) wr from hG.any (fun k xs hx => by unfold Full2 at hx; unfold Pre; rw [hx, rowOf_take _ _ _ (by omega)]))
              clear hlt hk hF hG
              go_wp2
              obtain ⟨w5, hw5⟩ : ∃ w5, w5 = wr := ⟨_, rfl⟩
              rw [← hw5] at hBw HF HG ⊢
              clear hw5
              go_loopw [11, 12, 13] (fun kk _ _ wr => ∃ (k : Nat), ∃ us, k ≤ ns.length ∧ kk = .int .i64 k ∧ B ≤ wr.heap.size ∧ FS w0 B (.slice A ns.length C) vs ns (Full ns) wr ∧ GS B gb vs us ns ns.length (Pre ns) wr) (fun kk _ _ _ => ns.length - (intOf kk).toNat)
              case atStart => exact ⟨0, us, Nat.zero_le _, rfl, hBw, HF.out, HG.out⟩
              case round =>
                clear HF HG hBw
                obtain ⟨k, us, hk, rfl, hBw, hF, hG⟩ := hrel
                by_cases hlt : k < ns.length
                · have hd : decide (k < ns.length) = true := by simpa using hlt
                  have hnk := HNS.out k hlt
                  have HF := Lib.hid hF
                  have HG := Lib.hid hG
                  clear hF hG
                  have hmk : ∀ W : World, (Instr.makeSlice 23 (.int .i64 64) (.int .i64 64)).run Tryz.prog W = .ok (.slice (some ⟨W.heap.size, 0, none⟩) 64 64) (W.alloc (.cells (zrow (.int .u8 0) 64) 5)) := fun W => make_bytes 64 64 (by omega) (by omega) W
                  obtain ⟨wo, hwo⟩ : ∃ wo : World, wo = wr := ⟨_, rfl⟩
                  go_wp2
                  clear hmk
                  obtain ⟨gm, hgm⟩ : ∃ gm : Nat, gm = wr.heap.size := ⟨_, rfl⟩
                  rw [← hgm]
                  have hn0 : New wo (wr.alloc (.cells (zrow (.int .u8 0) 64) 5)) := by rw [hwo]; exact (new_refl _).alloc (Nat.le_refl _) _
                  have hb0 : Blk (wr.alloc (.cells (zrow (.int .u8 0) 64) 5)) gm 5 (zrow (.int .u8 0) 64) := by rw [hgm]; exact Blk.new _ _ _
                  have hgw : wo.heap.size ≤ gm := by rw [hgm, hwo]; exact Nat.le_refl _
                  subst hwo
                  clear hgm
                  go_loopw [13] (fun ii wr => ∃ (i : Nat) (cs : Array Value), i ≤ 64 ∧ ii = .int .i64 i ∧ New wo wr ∧ Blk wr gm 5 cs ∧ cs.size = 64 ∧ (∀ u ∈ cs.toList, u.oneCell' = true)) (fun ii _ => 64 - (intOf ii).toNat)
                  case atStart => exact ⟨0, _, Nat.zero_le _, rfl, hn0, hb0, zrow_size _ _, zrow_one 64⟩
                  case round =>
                    clear hn0 hb0
                    obtain ⟨i, cs, hi, rfl, hn, hb, hsz, hone⟩ := hrel
                    have HONE := Lib.hid hone
                    clear hone
                    by_cases hli : i < 64
                    · obtain ⟨x, hx⟩ : ∃ x, cs[i]? = some x := ⟨_, Array.getElem?_eq_getElem (by omega)⟩
                      have hcell := hb.cell i
                      rw [hx] at hcell
                      have hz := hb.frozen i
                      have HB := Lib.hid hb
                      clear hb hx
                      go_wp2_with (go_at_call 35; refine (markByte_any _ _ _).mono ?_; rintro e w2 ⟨rfl, rfl⟩)
                      go_roundw
                      case rel => exact ⟨i + 1, _, by omega, by go_num, hn.setCell (p := ⟨gm, i, none⟩) hgw _, HB.out.set_ i _, by rw [Array.size_setIfInBounds]; exact hsz, by
                        intro u hu
                        rw [Array.toList_setIfInBounds] at hu
                        rcases List.mem_or_eq_of_mem_set hu with h | h
                        · exact HONE.out u h
                        · rw [h]; rfl⟩
                      case measure => simp [intOf]; omega
                    · obtain rfl : i = 64 := by omega
                      have hF := HF.out.more hn hBw
                      have hG := HG.out.more hn
                      obtain ⟨gl, e, hhead⟩ := hF.head hlt
                      subst e
                      obtain ⟨Ak, ck, xk, hvk, hok, hxk⟩ := hF.each k hlt
                      have hc := hhead k hlt
                      rw [hvk] at hc
                      have hxe : xk = rowOf k ns[k] := by unfold Full at hxk; rw [getElem!_pos ns k hlt] at hxk; exact hxk
                      subst hxe
                      have hrd := reads_blk hb hsz
                      obtain ⟨x, hx⟩ : ∃ x, us.toArray[k]? = some x := ⟨_, Array.getElem?_eq_getElem (by have := hG.len; simp; omega)⟩
                      have hBr : B ≤ wr.heap.size := Nat.le_trans hBw hn.size
                      have HFn := Lib.hid hF
                      have HGn := Lib.hid hG
                      have HOK := Lib.hid hok
                      have HRD := Lib.hid hrd
                      have HVK := Lib.hid hvk
                      have HX := Lib.hid hx
                      clear hF hG hok hrd hvk hx hhead hxk hb HF HG
                      obtain ⟨i0, hi0, hz0, hz1, hz2⟩ := info_parts byte_info
                      go_wp2_with
                        (at_builtin; refine wpList_append_two _ rfl (.tmp 148) (.tmp 149) 23 rfl B 5 i0 _ 1 Tryz.underlying23 hi0 hz0 hz1 hz2 rfl (.slice Ak ns[k] ck) _ _ rfl HOK.out _ _ 64 64 _ rfl HRD.out HONE.out (by unfold maxLen; omega) (by omega) hBr ?_; intro v2 w2 hl2; obtain ⟨A2, c2, hv2, _⟩ := own_len hl2.1; subst hv2; have ht2 := (Twin.start HOK.out).step hl2; have hb2 := HGn.out.top HFn.out hlt HVK.out ht2; have hcell2 := (hb2.cell k).trans HX.out; have hfr2 := hb2.frozen k; have HT2 := Lib.hid ht2; have HB2 := Lib.hid hb2; clear ht2 hb2 hl2)
                      have hfx := (HFn.out.twin hlt HVK.out HT2.out (List.take_left' (rowOf_length _ _)) hBr).far hgb0 HB2.out HNE.out k (.slice A2 (ns[k] + 64) c2)
                      have hgx := HGn.out.swap HFn.out hlt HVK.out HT2.out (by unfold Pre; rw [getElem!_pos ns k hlt]; exact List.take_left' (rowOf_length _ _))
                      have hsz2 := HT2.out.ch.size
                      go_roundw
                      case rel => exact ⟨k + 1, _, by omega, by go_num, by simp; omega, hfx, hgx⟩
                      case measure => simp [intOf]; omega
                · obtain rfl : k = ns.length := by omega
                  have HF := Lib.hid hF
                  have HG := Lib.hid hG
                  clear hlt hk hF hG
                  go_wp2
                  obtain ⟨w6, hw6⟩ : ∃ w6, w6 = wr := ⟨_, rfl⟩
                  rw [← hw6] at hBw HF HG ⊢
                  clear hw6
                  go_loopw [14, 15] (fun kk _ wr => ∃ (k : Nat), k ≤ ns.length ∧ kk = .int .i64 k ∧ FS w0 B (.slice A ns.length C) vs ns (Full ns) wr ∧ GS B gb vs us ns ns.length (Pre ns) wr) (fun kk _ _ => ns.length - (intOf kk).toNat)
                  case atStart => exact ⟨0, Nat.zero_le _, rfl, HF.out, HG.out⟩
                  case round =>
                    clear HF HG hBw
                    obtain ⟨k, hk, rfl, hF, hG⟩ := hrel
                    by_cases hlt : k < ns.length
                    · have hd : decide (k < ns.length) = true := by simpa using hlt
                      have hnk := HNS.out k hlt
                      obtain ⟨gl, e, hhead⟩ := hF.head hlt
                      subst e
                      obtain ⟨Ak, ck, xk, hvk, hok, hxk⟩ := hF.each k hlt
                      have hc := hhead k hlt
                      rw [hvk] at hc
                      have HF := Lib.hid hF
                      have HG := Lib.hid hG
                      clear hF hG hhead hok hxk
                      go_wp2
                      go_loopw [15] (fun ii wr => ∃ (i : Nat), i ≤ ns[k] ∧ ii = .int .i64 i ∧ FS w0 B (.slice (some ⟨gl, 0, none⟩) ns.length C) vs ns (Full ns) wr ∧ GS B gb vs us ns ns.length (Pre ns) wr) (fun ii _ => ns[k] - (intOf ii).toNat)
                      case atStart => exact ⟨0, Nat.zero_le _, rfl, HF.out, HG.out⟩
                      case round =>
                        clear HF HG hc
                        obtain ⟨i, hi, rfl, hF, hG⟩ := hrel
                        obtain ⟨gl', e, hhead⟩ := hF.head hlt
                        injection e with e
                        injection e with e
                        subst e
                        have hc := hhead k hlt
                        rw [hvk] at hc
                        have HF := Lib.hid hF
                        have HG := Lib.hid hG
                        by_cases hli : i < ns[k]
                        · obtain ⟨Ag, cg, ys, hug, hog, hyg⟩ := hG.each k hlt hlt
                          have hcg := hG.row.cell k
                          rw [List.getElem?_toArray, hug] at hcg
                          obtain ⟨gg, curg, rfl, _, hbg, _, _, hyc⟩ := own_some hog (by omega)
                          have hcgi := hbg.cell i
                          unfold Pre at hyg
                          rw [getElem!_pos ns k hlt] at hyg
                          have hyi : ys[i]? = some (mkV k i) := by
                            have := congrArg (fun l => l[i]?) hyg
                            simp only [List.getElem?_take, if_pos hli] at this
                            rw [this, rowOf_get k _ i hli]
                          rw [hyc i (by omega), hyi, mkV] at hcgi
                          obtain ⟨Ak', ck', xk, hvk', hok, hxk⟩ := hF.each k hlt
                          rw [hvk] at hvk'
                          injection hvk' with hvk'
                          injection hvk' with eA _ ec
                          subst eA
                          subst ec
                          obtain ⟨ga, cura, rfl, _, hba, _, _, hxc⟩ := own_some hok (by omega)
                          have hcli := hba.cell i
                          unfold Full at hxk
                          rw [getElem!_pos ns k hlt] at hxk
                          rw [hxc i hli, hxk, rowOf_get k _ i hli, mkV] at hcli
                          have hd2 : decide (i < ns[k]) = true := by simpa using hli
                          have hd3 : decide (i < ns[k] + 64) = true := by simp; omega
                          clear hF hG hhead hok hog hbg hba hyc hxc hyg hxk hug hyi hvk
                          go_wp2
                          go_quiet ((go_at_call 35; exact Calls.quiet_of_same ((markByte_any _ _ _).mono (fun _ _ h => ⟨h.1, h.2.symm⟩))))
                          go_wp2
                          go_roundw
                          case rel => exact ⟨i + 1, by omega, by go_num, HF.out.drew _, HG.out.drew _⟩
                          case measure => simp [intOf]; omega
                        · obtain rfl : i = ns[k] := by omega
                          clear hF hG hhead
                          go_wp2
                          go_roundw
                          case rel => exact ⟨k + 1, by omega, by go_num, HF.out, HG.out⟩
                          case measure => simp [intOf]; omega
                    · obtain rfl : k = ns.length := by omega
                      have hbl := hF.below
                      clear hF hG
                      go_wp2
                      go_ret
                      exact ⟨rfl, hbl⟩
end Go.Proofs.YtpkiopijfhkagaaGreatDoor.kit
