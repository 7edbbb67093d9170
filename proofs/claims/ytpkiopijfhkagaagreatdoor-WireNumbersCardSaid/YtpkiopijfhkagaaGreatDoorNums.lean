/-
  WireNumbers, walked.
-/
import Derived.Test.YtpkiopijfhkagaaGreatDoorNumsA
namespace Go.Proofs.YtpkiopijfhkagaaGreatDoor.laws
open Go.RowKit Go.Proofs.YtpkiopijfhkagaaGreatDoor.mem Go.Proofs.YtpkiopijfhkagaaGreatDoor.kit Go.Proofs.YtpkiopijfhkagaaGreatDoor.wire Go.Proofs.YtpkiopijfhkagaaGreatDoor.rd
set_option linter.unusedVariables false

theorem blk_second (w : World) (a : Obj) (t : TypeId) (cs : Array Value) : Blk ((w.alloc a).alloc (.cells cs t)) (w.heap.size + 1) t cs := by
  have h := Blk.new (w.alloc a) t cs
  have e : (w.alloc a).heap.size = w.heap.size + 1 := by simp
  rwa [e] at h

theorem copy_len {lb : List UInt8} {j : Nat} (h : lb.length = 8) (hx : 8 * j + 8 ≤ 50) : (vb lb).length = Nat.min 8 (50 - 8 * j) := by
  rw [vb_length, h]
  exact (Nat.min_eq_left (by omega)).symm
theorem copy_fit {lb : List UInt8} {cur : List Value} {c j : Nat} (h : lb.length = 8) (hc : cur.length = c) (hx : 8 * j + 8 ≤ c) : 8 * j + (vb lb).length ≤ cur.length := by
  rw [vb_length, h, hc]
  exact hx
theorem copy_fit2 {lb : List UInt8} {j : Nat} (h : lb.length = 8) (hx : 8 * j + 8 ≤ 50) : 8 * j + lb.length ≤ 50 := by
  rw [h]
  exact hx

theorem copy_step (W0 w : World) (g j ke c1 : Nat) (A : Option Addr) (ad : Addr) (cur : List Value) (lb : List UInt8) (hA : A = some ad) (hg : w.heap[g]? = some (.cells cur.toArray 5 (0, 0))) (hlb : lb.length = 8) (hc : cur.length = ke) (hx : ∃ l : List UInt8, l.length = 50 ∧ cur.take 50 = vb l)
    (hs : ∀ j v, (vb lb)[j]? = some v → w.cell? (ad.add j) = some v) (hj : 8 * j + 8 ≤ 50) (hk : 50 ≤ ke) (hk2 : ke ≤ maxLen) (hB : W0.heap.size ≤ g) (hn : New W0 w) :
    ∃ w8, (Builtin.copy_ #[23, 23] 3 #[.slice (some ⟨g, 8 * j, none⟩) (50 - 8 * j) (ke - 8 * j), .slice A 8 c1]).run Tryz.prog w = .ok (goInt 8) w8 ∧ Ow W0.heap.size 50 (.slice (some ⟨g, 0, none⟩) 50 ke) w8 ∧ New W0 w8 := by
  subst hA
  have hr := run_copy_row (P := Tryz.prog) w 23 23 3 5 g (8 * j) (50 - 8 * j) (ke - 8 * j) ad 8 c1 cur.toArray 5 (vb lb) Tryz.underlying23 byte_size hg (copy_len hlb hj) hs (by simpa using copy_fit hlb hc (Nat.le_trans hj hk)) (vb_one _)
  have e8 : (vb lb).length = 8 := by rw [vb_length, hlb]
  have hcell := setRow_heap w g _ (cur.take (8 * j) ++ vb lb ++ cur.drop (8 * j + (vb lb).length)).toArray 5 _ hg
  have hsp : (cur.take (8 * j) ++ vb lb ++ cur.drop (8 * j + (vb lb).length)) = splice cur (8 * j) (vb lb) := by simp [splice]
  have hr2 : _ = Result.ok (goInt ((vb lb).length : Int)) (w.setRow g (cur.take (8 * j) ++ vb lb ++ cur.drop (8 * j + (vb lb).length)).toArray) := hr
  rw [hsp, e8] at hr2
  rw [hsp] at hcell
  exact ⟨_, hr2, Ow.copied (w := w) (b := lb) hx hcell hB hc hk hk2 (copy_fit2 hlb hj), below_setRow hn hB _⟩
theorem wpList_append_hw {P : Program} {ops : Array Oper} {rest : List Oper} {o : Oper} {a : Act} {Q : Exit → Act → World → Prop} {w : World} (hw : Region.wanted o (yielded ops a.tmps) = true) (s x : Operand) (t : TypeId)
    (ho : o.op = .call { callee := .builtin .append, args := #[s, x], argTypes := #[t, t] })
    (base : Nat) (e : TypeId) (i : TypeInfo) (z : Value) (size bytes : Nat) (ht : P.underlying t = some (.slice e)) (hi : P.info? e = some i) (hz : i.zero = some z)
    (hsize : i.size = size) (hby : i.bytes = bytes) (hzs : z.cells.size = size) (hsz : 0 < size)
    (v : Value) (n : Nat) (xs : List Value) (hs : a.eval s = v) (hown : w.ownsRow base e size v n xs)
    (B : Nat) (A : Option Addr) (m c : Nat) (news : List Value) (hx : a.eval x = .slice A m c) (hr : Reads w B size A m news) (h1 : ∀ u ∈ news, u.oneCell' = true)
    (h63 : n + m ≤ maxLen) (hbytes : (n + m) * bytes ≤ 140737488355328) (hbase : base ≤ w.heap.size)
    (h : ∀ v' w', w'.ownsRow base e size v' (n + m) (xs ++ news) → w.grownBy w' v.ownBlock → (v'.ownBlock = v.ownBlock ∨ v'.ownBlock = some w.heap.size) → wpList P ops Q rest (a.put o.dst v') w') : wpList P ops Q (o :: rest) a w := by
  refine wpList_step fun K hK => ?_
  rw [if_pos hw]
  exact wp_append_any w s x t ho base e i z size bytes ht hi hz hsize hby hzs hsz v n xs hs hown B A m c news hx hr h1 h63 hbytes hbase fun v' w' h2 h3 h4 => hK _ _ (h v' w' h2 h3 h4)

set_option maxRecDepth 100000 in
set_option maxHeartbeats 4000000 in
theorem WireNumbers_any (T : TypeId) (q : Addr) (w : World) (hE : ErrAt w T q) :
    Calls Tryz.prog 3 #[] w fun e w' => e = .returned (.bool true) ∧ New w w' := by
  have HE := Lib.hid hE
  clear hE
  obtain ⟨i0, hi, hz0, hz1, hz2⟩ := info_parts byte_info
  go_enter Tryz.func3, Tryz.ntmps3
  have hb0 : Blk (w.alloc (.cells numC 3)) w.heap.size 3 numC := Blk.new _ _ _
  have hn0 : New w (w.alloc (.cells numC 3)) := alloc_new _ _
  go_upto_region 2 with fail
  go_wp2_with fail
  go_loopw [2] (fun i wr => ∃ k : Nat, k ≤ 14 ∧ i = .int .i64 k ∧ Blk wr w.heap.size 3 numC ∧ New w wr) (fun i _ => 14 - (intOf i).toNat)
  case atStart => exact ⟨0, Nat.zero_le _, rfl, hb0, hn0⟩
  case round =>
    clear hb0 hn0
    obtain ⟨k, hk, rfl, hb, hnw⟩ := hrel
    have HB := Lib.hid hb
    have HNW := Lib.hid hnw
    clear hb hnw
    by_cases hlt : k < 14
    · obtain ⟨z, hz, z0, z1⟩ := numC_at k hlt
      have r1 := (HB.out.cell k).trans hz
      have HZ := Lib.hid hz
      clear hz
      go_wp2_with (go_at_call 4; refine (num8 z _).mono ?_; rintro e w1 ⟨A1, c1, rfl, hc1, ho1, hn1⟩; have HO1 := Lib.hid (ho1.less HNW.out.size); have HN1 := Lib.hid (New.then HNW.out hn1); have HB1 := Lib.hid (HB.out.below hn1 HB.out.lt); clear ho1 hn1)
      have r1 := (HB1.out.cell k).trans HZ.out
      go_cut [3, 56] (fun s3 s56 wx => s3 = .slice A1 8 c1 ∧ s56 = .bool false ∧ Blk wx w.heap.size 3 numC ∧ New w wx ∧ Ow w.heap.size 8 (.slice A1 8 c1) wx)
      case first =>
        go_region_held3 (fun w' => w'.cell? ⟨w.heap.size, k, none⟩ = some (.int .i64 z))
          (first | go_keep | exact r1)
          (first
            | (go_at_call 5; refine (puts_n T q z A1 8 c1 _ _ _ _ _ z0 z1 (by omega) (u8_bnd _) (by first | exact i64_bnd _ | exact wrap64_bnd _ | omega) (by first | exact i64_bnd _ | exact wrap64_bnd _ | omega) (errNew HE.out (by first | exact HN1.out | exact Below.drew HN1.out)) (by first | exact (HO1.out.keep (Below.drew (new_refl _))).reads | exact HO1.out.reads)).mono ?_; rintro e w3 ⟨rfl, hn3⟩; have hn13 : New w1 w3 := (by first | exact hn3 | exact New.then (Below.drew (new_refl _)) hn3); have HN3 := Lib.hid (New.then HN1.out hn13); have HO3 := Lib.hid (HO1.out.keep hn13); have HB3 := Lib.hid (HB1.out.below hn13 HB1.out.lt); have r1 := (HB3.out.cell k).trans HZ.out; clear hn3 hn13)
            | (obtain ⟨l8, hl8, ho8⟩ := HO3.out; refine step_append_two (by rfl) (.tmp 50) (.tmp 51) 23 (by rfl) w.heap.size 5 i0 _ 1 Tryz.underlying23 hi hz0 hz1 hz2 rfl _ _ _ (by rfl) (by first | exact own_new ho8 (alloc_new _ _) | exact own_new ho8 (New.then (alloc_new _ _) (alloc_new _ _))) _ _ 4 4 (vb [1, 2, 3, 4]) (by rfl) (by first | exact wire.reads_blk (Blk.new w3 _ _) | exact wire.reads_blk ((Blk.new w3 _ _).alloc _) | exact wire.reads_blk (blk_second w3 _ _ _)) (vb_one _) (by unfold maxLen; omega) (by omega) (by have := HN3.out.size; simp; omega) ?_; intro v4 w4 hlg; obtain ⟨haf, hkb⟩ := Af.of (W0 := w) (by first | exact New.then HN3.out (alloc_new _ _) | exact New.then HN3.out (New.then (alloc_new _ _) (alloc_new _ _))) hl8 (show [1, 2, 3, 4].length = 4 from rfl) (by first | exact own_new ho8 (alloc_new _ _) | exact own_new ho8 (New.then (alloc_new _ _) (alloc_new _ _))) hlg; obtain ⟨A4, c4, rfl, ho4⟩ := haf.new; have HO4 := Lib.hid ho4; have HO4b := Lib.hid haf.old; have HN4 := Lib.hid haf.keep; have HB4 := Lib.hid (hkb w.heap.size numC (by first | exact HB3.out.alloc _ | exact (HB3.out.alloc _).alloc _)); have HKB := Lib.hid hkb; have r1 := (HB4.out.cell k).trans HZ.out; clear hlg haf hkb ho4 ho8)
            | (go_at_call 6; refine (reads_call T q A4 _ 12 c4 2 2 [1, 0] _ (errNew HE.out (by first | exact HN4.out | exact New.then HN4.out (alloc_new _ _))) (by first | exact HO4.out.reads | exact (HO4.out.keep (alloc_new _ _)).reads) rfl (by omega) (by omega) (by first | exact wire.reads_blk (Blk.new w4 _ _) | exact wire.reads_blk (HKB.out _ _ (blk_second w3 _ _ _)) | exact wire.reads_blk (HKB.out _ _ ((Blk.new w3 _ _).alloc _))) (by simp)).mono ?_; rintro e w5 ⟨rfl, hn5⟩; have hn45 : New w4 w5 := (by first | exact hn5 | exact New.then (alloc_new _ _) hn5); have HN5 := Lib.hid (New.then HN4.out hn45); have HO5 := Lib.hid (HO4b.out.keep hn45); have HB5 := Lib.hid (HB4.out.below hn45 HB4.out.lt); have r1 := (HB5.out.cell k).trans HZ.out; clear hn5 hn45))
        all_goals go_wp2_with fail
        all_goals go_meet
        all_goals exact ⟨rfl, rfl, HB5.out, HN5.out, HO5.out⟩
      case rest =>
        obtain ⟨rfl, rfl, hb5, hn5, ho5⟩ := hcut
        have HB5 := Lib.hid hb5
        have HN5 := Lib.hid hn5
        have HO5 := Lib.hid ho5
        go_wp2_with fail
        go_loopw [4] (fun i wr => ∃ j : Nat, j ≤ 6 ∧ i = .int .i64 j ∧ Blk wr w.heap.size 3 numC ∧ New w wr ∧ Ow w.heap.size 8 (.slice A1 8 c1) wr) (fun i _ => 6 - (intOf i).toNat)
        case atStart => exact ⟨0, Nat.zero_le _, rfl, HB5.out, HN5.out, HO5.out⟩
        case round =>
          clear r1 HB HNW HO1 HN1 HB1 HN5 HO5 HB5 hb5 hn5 ho5
          obtain ⟨j, hj, rfl, hb, hnw, ho⟩ := hrel
          have HB := Lib.hid hb
          have HNW := Lib.hid hnw
          have HO := Lib.hid ho
          clear hb hnw ho
          by_cases hlj : j < 6
          · have hx2 : 8 * j + 8 ≤ 50 := by omega
            go_wp2_with (first
              | (go_at_call 7; refine (ent_n 1 2 3 4 true _ 2 50 _ [5, 6] _ rfl rfl (by omega) (by omega) (by decide) (wire.reads_blk (Blk.new wr _ _))).mono ?_; rintro e w7 ⟨g, ke, rfl, hk1, hk2, ho7, hn7⟩; have HR7 := Lib.hid (New.then (alloc_new wr _) hn7); have HK2 := Lib.hid hk2; obtain ⟨hg1, cur, hcur, hcl, hcx⟩ := ho7.row; have hg2 : wr.heap.size ≤ g := (by simp at hg1; omega); obtain ⟨lb, hlb, hrb⟩ := (HO.out.keep HR7.out).reads; obtain ⟨ad, hA1, hadb, hadc⟩ := hrb.2 (by omega); have HCUR := Lib.hid hcur; have HCL := Lib.hid hcl; have HCX := Lib.hid hcx; have HLB := Lib.hid hlb; have HAD := Lib.hid hA1; have HADC := Lib.hid hadc; clear hk2 ho7 hn7 hcur hcl hcx hlb hrb hA1 hadb hadc hg1))
            obtain ⟨w8, hrun, ho8, hr8⟩ := copy_step wr w7 g j ke c1 A1 ad cur lb HAD.out HCUR.out HLB.out HCL.out HCX.out HADC.out hx2 hk1 HK2.out hg2 HR7.out
            rw [hrun]
            have HO8 := Lib.hid ho8
            have HRw8 := Lib.hid hr8
            have HB8 := Lib.hid (HB.out.below hr8 HB.out.lt)
            have HOb := Lib.hid (HO.out.keep hr8)
            clear hrun ho8 hr8
            go_wp2_with (first
              | (go_at_call 6; (with_reducible refine (reads_call T q (some ⟨g, 0, none⟩) (some ⟨w8.heap.size, 0, none⟩) 50 ke 2 2 [2, 0] (w8.alloc (.cells #[.int .i64 2, .int .i64 0] 3)) (errNew HE.out (New.then HNW.out (New.then HRw8.out (alloc_new _ _)))) ((HO8.out.keep (alloc_new _ _)).reads) rfl (by omega) (by omega) (wire.reads_blk (Blk.new w8 _ _)) (by simp)).mono ?_); rintro e w9 ⟨rfl, hn2⟩; have HRw9 := Lib.hid (New.then HRw8.out (New.then (alloc_new w8 _) hn2)); have HOe := Lib.hid (HO8.out.keep (New.then (alloc_new w8 _) hn2)); clear hn2)
              | (obtain ⟨le, hle, hoe⟩ := HOe.out; at_builtin; refine wpList_append_hw (by rfl) (.tmp 75) (.tmp 76) 23 rfl wr.heap.size 5 i0 _ 1 1 Tryz.underlying23 hi hz0 hz1 hz2 rfl (by omega) _ _ _ rfl hoe _ (some ⟨g, 0, none⟩) 50 ke (vb le) rfl (own_typed hoe).2.1 (vb_one _) (by unfold maxLen; omega) (by omega) HRw9.out.size ?_; intro v10 w10 hown10 hg10 _; obtain ⟨A10, c10, rfl, ho10⟩ := two_own hle hle hown10; have HO10 := Lib.hid ho10; have HRw10 := Lib.hid (HRw9.out.grown hg10 HRw9.out.size (fun j hj => (hoe.lt j hj).1)); clear hown10 hg10 ho10 hoe hle)
              | (go_at_call 6; (with_reducible refine (reads_call T q A10 (some ⟨w10.heap.size, 0, none⟩) 100 c10 3 3 [2, 2, 2] (w10.alloc (.cells #[.int .i64 2, .int .i64 2, .int .i64 2] 3)) (errNew HE.out (New.then HNW.out (New.then HRw10.out (alloc_new _ _)))) ((HO10.out.keep (alloc_new _ _)).reads) rfl (by omega) (by omega) (wire.reads_blk (Blk.new w10 _ _)) (by simp)).mono ?_); rintro e w11 ⟨rfl, hn2⟩; have HRw11 := Lib.hid (New.then HRw10.out (New.then (alloc_new w10 _) hn2)); clear hn2))
            go_roundw
            case rel => exact ⟨j + 1, by omega, by go_num, HB.out.below HRw11.out HB.out.lt, New.then HNW.out HRw11.out, HO.out.keep HRw11.out⟩
            case measure => simp [intOf]; omega
          · obtain rfl : j = 6 := by omega
            go_wp2_with fail
            go_roundw
            case rel => exact ⟨k + 1, by omega, by go_num, HB.out, HNW.out⟩
            case measure => simp [intOf]; omega
    · obtain rfl : k = 14 := by omega
      go_wp2_with (go_at_call 7; refine (ent_n 7 1 0 0 true _ 3 51 _ [9, 8, 7] _ rfl rfl (by omega) (by omega) (by decide) (wire.reads_blk (Blk.new wr _ _))).mono ?_; rintro e w1 ⟨g, ke, rfl, hk1, hk2, ho, hn1⟩; have HN1 := Lib.hid (New.then HNW.out (New.then (alloc_new _ _) hn1)); have HO := Lib.hid (ho.less (show w.heap.size ≤ _ by have := HNW.out.size; simp; omega)); clear ho hn1)
      go_loopw [7] (fun i wr => ∃ j : Nat, j ≤ 52 ∧ i = .int .i64 j ∧ New w wr ∧ Ow w.heap.size 51 (.slice (some ⟨g, 0, none⟩) 51 ke) wr) (fun i _ => 52 - (intOf i).toNat)
      case atStart => exact ⟨0, Nat.zero_le _, rfl, HN1.out, HO.out⟩
      case round =>
        clear HB HNW HN1 HO
        obtain ⟨j, hj, rfl, hnw, ho⟩ := hrel
        have HNW := Lib.hid hnw
        have HO := Lib.hid ho
        clear hnw ho
        by_cases hlj : j < 52
        · have hjc : j ≤ ke := by omega
          rcases Nat.lt_or_eq_of_le hjc with hjk | hjk
          · have HNwr := HNW
            have HOwr := HO
            have hj2 : j ≤ 51 := by omega
            go_wp2_with (first
              | (go_at_call 6; (with_reducible refine (reads_call T q (some ⟨g, 0, none⟩) (some ⟨wr.heap.size, 0, none⟩) j ke 2 2 [2, 1] (wr.alloc (.cells #[.int .i64 2, .int .i64 1] 3)) (errNew HE.out (New.then HNwr.out (alloc_new _ _))) ((HOwr.out.keep (alloc_new _ _)).cutTo hj2) rfl (by omega) (by omega) (wire.reads_blk (Blk.new wr _ _)) (by simp)).mono ?_); rintro e wa ⟨rfl, hn2⟩; have HNwa := Lib.hid (New.then HNwr.out (New.then (alloc_new wr _) hn2)); have HOwa := Lib.hid (HOwr.out.keep (New.then (alloc_new wr _) hn2)); clear hn2)
              | (go_at_call 6; (with_reducible refine (reads_call T q (some ⟨g, 0, none⟩) (some ⟨wa.heap.size, 0, none⟩) j ke 7 7 [0, 0, 0, 0, 0, 1, 0] (wa.alloc (.cells #[.int .i64 0, .int .i64 0, .int .i64 0, .int .i64 0, .int .i64 0, .int .i64 1, .int .i64 0] 3)) (errNew HE.out (New.then HNwa.out (alloc_new _ _))) ((HOwa.out.keep (alloc_new _ _)).cutTo hj2) rfl (by omega) (by omega) (wire.reads_blk (Blk.new wa _ _)) (by simp)).mono ?_); rintro e wb ⟨rfl, hn2⟩; have HNwb := Lib.hid (New.then HNwa.out (New.then (alloc_new wa _) hn2)); have HOwb := Lib.hid (HOwa.out.keep (New.then (alloc_new wa _) hn2)); clear hn2)
              | (go_at_call 6; (with_reducible refine (reads_call T q (some ⟨g, j, none⟩) (some ⟨wb.heap.size, 0, none⟩) (51 - j) (ke - j) 2 2 [1, 2] (wb.alloc (.cells #[.int .i64 1, .int .i64 2] 3)) (errNew HE.out (New.then HNwb.out (alloc_new _ _))) ((HOwb.out.keep (alloc_new _ _)).cutFrom hj2) rfl (by omega) (by omega) (wire.reads_blk (Blk.new wb _ _)) (by simp)).mono ?_); rintro e wc ⟨rfl, hn2⟩; have HNwc := Lib.hid (New.then HNwb.out (New.then (alloc_new wb _) hn2)); have HOwc := Lib.hid (HOwb.out.keep (New.then (alloc_new wb _) hn2)); clear hn2))
            go_roundw
            case rel => exact ⟨j + 1, by omega, by go_num, HNwc.out, HOwc.out⟩
            case measure => simp [intOf]; omega
          · obtain rfl : ke = j := hjk.symm
            have HNwr := HNW
            have HOwr := HO
            have hj2 : ke ≤ 51 := by omega
            go_wp2_with (first
              | (go_at_call 6; (with_reducible refine (reads_call T q (some ⟨g, 0, none⟩) (some ⟨wr.heap.size, 0, none⟩) ke ke 2 2 [2, 1] (wr.alloc (.cells #[.int .i64 2, .int .i64 1] 3)) (errNew HE.out (New.then HNwr.out (alloc_new _ _))) ((HOwr.out.keep (alloc_new _ _)).cutTo hj2) rfl (by omega) (by omega) (wire.reads_blk (Blk.new wr _ _)) (by simp)).mono ?_); rintro e wa ⟨rfl, hn2⟩; have HNwa := Lib.hid (New.then HNwr.out (New.then (alloc_new wr _) hn2)); have HOwa := Lib.hid (HOwr.out.keep (New.then (alloc_new wr _) hn2)); clear hn2)
              | (go_at_call 6; (with_reducible refine (reads_call T q (some ⟨g, 0, none⟩) (some ⟨wa.heap.size, 0, none⟩) ke ke 7 7 [0, 0, 0, 0, 0, 1, 0] (wa.alloc (.cells #[.int .i64 0, .int .i64 0, .int .i64 0, .int .i64 0, .int .i64 0, .int .i64 1, .int .i64 0] 3)) (errNew HE.out (New.then HNwa.out (alloc_new _ _))) ((HOwa.out.keep (alloc_new _ _)).cutTo hj2) rfl (by omega) (by omega) (wire.reads_blk (Blk.new wa _ _)) (by simp)).mono ?_); rintro e wb ⟨rfl, hn2⟩; have HNwb := Lib.hid (New.then HNwa.out (New.then (alloc_new wa _) hn2)); have HOwb := Lib.hid (HOwa.out.keep (New.then (alloc_new wa _) hn2)); clear hn2)
              | (go_at_call 6; (with_reducible refine (reads_call T q (some ⟨g, 0, none⟩) (some ⟨wb.heap.size, 0, none⟩) 0 0 2 2 [1, 2] (wb.alloc (.cells #[.int .i64 1, .int .i64 2] 3)) (errNew HE.out (New.then HNwb.out (alloc_new _ _))) (cut_none rfl) rfl (by omega) (by omega) (wire.reads_blk (Blk.new wb _ _)) (by simp)).mono ?_); rintro e wc ⟨rfl, hn2⟩; have HNwc := Lib.hid (New.then HNwb.out (New.then (alloc_new wb _) hn2)); have HOwc := Lib.hid (HOwb.out.keep (New.then (alloc_new wb _) hn2)); clear hn2))
            go_roundw
            case rel => exact ⟨ke + 1, by omega, by go_num, HNwc.out, HOwc.out⟩
            case measure => simp [intOf]; omega
        · obtain rfl : j = 52 := by omega
          go_wp2_with (first
            | (go_at_call 6; refine (reads_call T q none _ 0 0 3 3 [0, 1, 2] _ (errNew HE.out (New.then HNW.out (alloc_new _ _))) (cut_none rfl) rfl (by omega) (by omega) (wire.reads_blk (Blk.new _ _ _)) (by simp)).mono ?_; rintro e w5 ⟨rfl, hn5⟩; have HN5 := Lib.hid (New.then HNW.out (New.then (alloc_new _ _) hn5)); clear hn5)
            | (go_at_call 8; refine (awake_any T q _ (errNew HE.out HN5.out)).mono ?_; rintro e w6 ⟨rfl, hn6⟩))
          go_ret
          exact ⟨rfl, New.then HN5.out hn6⟩
end Go.Proofs.YtpkiopijfhkagaaGreatDoor.laws
