/-
  frame's iterator, walked.
-/
import Derived.Test.YtlbbhheaginddaaFrames
import Derived.Deep.DeepCutAuto
namespace Go.Proofs.Ytlbbhheaginddaa.fr
open Go.RowKit Go.Shelf Go.Proofs.Ytlbbhheaginddaa.mem Go.Proofs.Ytlbbhheaginddaa.kit Go.Proofs.Ytlbbhheaginddaa.wire Go.Proofs.Ytlbbhheaginddaa.crc Go.Proofs.Ytlbbhheaginddaa.rng
set_option linter.unusedVariables false
attribute [local go_sem] Oper.semAt_some

/-- All whole frames were taken. -/
def AllTk (l : List UInt8) (tk : List It) : Prop := st (l.drop (fbs (tk.map (·.1))).length) ≠ 1

theorem state_one (B g u : Nat) (l : List UInt8) (w : World) (hl : l.length ≤ 1099511627776) (hs : st l = 1) (h : SG B w g l u) :
    Calls Try.prog 22 #[.pointer (some ⟨g, 0, none⟩)] w fun e w' => e = .returned (.int .i64 1) ∧ New w w' :=
  (state_any B g u l w hl h).mono fun e w' hh => ⟨by rw [hh.1, hs]; rfl, hh.2⟩

set_option maxRecDepth 100000 in
set_option maxHeartbeats 4000000 in
theorem frames_in (w0 : World) (g Bf : Nat) (l : List UInt8) (hl : l.length ≤ 1099511627776) (lp D : Nat) (R : Loop) (W : World)
    (hY : ∀ tk x W1, (Sc w0 g l (tk ++ [x]) W1 ∧ Bx w0 Bf tk W1) → Bk lp D R W1 → YieldAt Fence.wide (3 - 1 - 1) Try.prog lp #[itV x] W1 fun e W' => e = .returned (.bool true) ∧ (Sc w0 g l (tk ++ [x]) W' ∧ Bx w0 Bf (tk ++ [x]) W') ∧ Bk lp D R W')
    (h0 : Sc w0 g l [] W ∧ Bx w0 Bf [] W) (hb : Bk lp D R W) :
    CallsIn Fence.wide (3 - 1) Try.prog 21 (#[.pointer (some ⟨g, 0, none⟩)] ++ #[.func (.yield lp) #[] #[]] ++ #[]) W fun e W' => (∃ v, e = .returned v) ∧ ∃ xs, AllTk l xs ∧ (Sc w0 g l xs W' ∧ Bx w0 Bf xs W') ∧ Bk lp D R W' := by
  refine callsIn_wide.2 ?_
  have HY := Lib.hid hY
  have H0 := Lib.hid h0
  have HB := Lib.hid hb
  clear hY h0 hb
  show Calls Try.prog 21 #[.pointer (some ⟨g, 0, none⟩), .func (.yield lp) #[] #[]] W _
  go_enter Try.func21, Try.ntmps21
  go_wp2
  go_loopw [4] (fun f wr => ∃ tk, (Sc w0 g l tk wr ∧ Bx w0 Bf tk wr) ∧ Bk lp D R wr) (fun _ wr => leftN g wr)
  case atStart => exact ⟨[], H0.out, HB.out⟩
  case round =>
    clear H0 HB
    obtain ⟨tk, ⟨hsc, hbx⟩, hbk⟩ := hrel
    obtain ⟨hrows, r, e1, e2, e3, hsg⟩ := hsc
    have hm := hsg.leftN
    have hrl : r.length ≤ 1099511627776 := by have := congrArg List.length e1; rw [List.length_append] at this; omega
    obtain ⟨U, hU⟩ : ∃ U, (fbs (tk.map (·.1))).length = U := ⟨_, rfl⟩
    rw [hU] at hsg
    have hUl : U ≤ 1099511627776 := by have := congrArg List.length e1; rw [List.length_append] at this; omega
    have HU := Lib.hid hU
    clear hU
    have HM := Lib.hid hm
    have HR := Lib.hid hrows
    have HE1 := Lib.hid e1
    have HE2 := Lib.hid e2
    have HE3 := Lib.hid e3
    have HSG := Lib.hid hsg
    have HBX := Lib.hid hbx
    have HBK := Lib.hid hbk
    clear hm hrows e1 e2 e3 hsg hbx hbk
    by_cases hs : st r = 1
    · have HS1 := Lib.hid (state_one w0.heap.size g U r wr hrl hs HSG.out)
      have HT := Lib.hid (fun V (hV : SG w0.heap.size V g r U) => take_any w0.heap.size g U r V hs hrl hV)
      have HST := Lib.hid hs
      clear hs
      go_wp2_with (first
        | (go_at_call 22; refine HS1.out.mono ?_; rintro e w1 ⟨rfl, hn1⟩)
        | (go_at_call 33; refine (HT.out _ (HSG.out.new hn1)).mono ?_; rintro e w2 ⟨A, c, rfl, ho, hsg2, hch2⟩; have HO := Lib.hid ho; have HSG2 := Lib.hid hsg2; have HCH2 := Lib.hid hch2; clear ho hsg2 hch2))
      obtain ⟨q1, q2, q3, -⟩ := st_whole r HST.out
      have hdl : (datF r).length ≤ 262144 := by omega
      clear q1 q2 q3
      obtain ⟨n, hn⟩ : ∃ n, (datF r).length = n := ⟨_, rfl⟩
      have HN := Lib.hid hn
      obtain ⟨kn, hkn⟩ : ∃ kn, ((kdF r).toNat : Int) = kn := ⟨_, rfl⟩
      have HKN := Lib.hid hkn
      rw [hn] at hdl
      rw [hn, hkn]
      clear hn hkn
      have HNB := Lib.hid (alloc_new w2 (.cells #[.int .i64 kn, .slice A n c] 31))
      go_cut [] (fun wx => ∃ w3, New (w2.alloc (.cells #[.int .i64 kn, .slice A n c] 31)) w3 ∧ wx = w3.setCell ⟨g, 1, none⟩ (.int .i64 ((U + (9 + n) : Nat) : Int)))
      case first =>
        have HG3 := Lib.hid (HSG2.out.new HNB.out)
        obtain ⟨v3, hb3⟩ := HG3.out.blk
        have HB3 := Lib.hid hb3
        have c1 : (w2.alloc (.cells #[.int .i64 kn, .slice A n c] 31)).cell? ⟨g, 1, none⟩ = some (.int .i64 (U : Int)) := (hb3.cell 1).trans rfl
        have z1 := hb3.frozen 1
        have hsum : (U : Int) + ((9 + n : Nat) : Int) = ((U + (9 + n) : Nat) : Int) := by omega
        have hnl : n ≤ 1099511627776 := by omega
        have HW9 : Hid (IntKind.i64.wrap ((U : Int) + (9 + (n : Int))) = ((U + (9 + n) : Nat) : Int)) := Lib.hid (by rw [IntWalk.i64_in _ (by omega)]; omega)
        clear hsum
        have HZ := Lib.hid (fun V (hV : New (w2.alloc (.cells #[.int .i64 kn, .slice A n c] 31)).drew V) => size_any kn A n c V hnl)
        clear hb3
        go_region_with ((go_at_call 34; refine (size_any kn A n c _ hnl).mono ?_; rintro e w3 ⟨rfl, hn3⟩; have hN3 : New (w2.alloc (.cells #[.int .i64 kn, .slice A n c] 31)) w3 := New.then (Below.drew (new_refl _)) hn3; have d1 : w3.cell? ⟨g, 1, none⟩ = some (.int .i64 (U : Int)) := ((HB3.out.below hN3 HB3.out.lt).cell 1).trans rfl; have y1 := (HB3.out.below hN3 HB3.out.lt).frozen 1))
        all_goals go_wp2_with fail
        all_goals go_meet
        all_goals exact ⟨w3, hN3, by rw [HW9.out]⟩
      case rest =>
        obtain ⟨w3, hn3, rfl⟩ := hcut
        have hch3 := (Ch.of_new (S := fun j => j = g) (New.then (alloc_new w2 _) hn3)).setCell (p := ⟨g, 1, none⟩) (fun _ => rfl) (.int .i64 ((U + (9 + n) : Nat) : Int))
        have hN2 : New w2 w3 := New.then (alloc_new w2 _) hn3
        have hch : Ch (fun j => j = g) wr w3 := (Ch.of_new (S := fun j => j = g) hn1).then (HCH2.out.then (Ch.of_new (S := fun j => j = g) hN2) (fun _ _ e => e)) (fun _ _ e => e)
        have ho3 := own_base (own_new HO.out hN2) hn1.size
        have hT := Sc.take (A := A) (c := c) HR.out HE1.out HE2.out HE3.out HST.out (by rw [HU.out]; exact HSG.out) ho3 hch
        obtain ⟨t1, t2, t3, t4, t5⟩ := hT
        have hsg3 := HSG2.out.new hN2
        obtain ⟨v3, hb3⟩ := hsg3.blk
        have hset : Ch (fun j => j = g) w3 (w3.setCell ⟨g, 1, none⟩ (.int .i64 ((U + (9 + n) : Nat) : Int))) := (Ch.refl (fun j => j = g) w3).setCell (p := ⟨g, 1, none⟩) (fun _ => rfl) _
        have hsc : Sc w0 g l (tk ++ [((kdF r, datF r), A, c)]) (w3.setCell ⟨g, 1, none⟩ (.int .i64 ((U + (9 + n) : Nat) : Int))) :=
          ⟨t1.chg hb3 (by decide) hsg3.lt.1 hset, nxtF r, t2, t3, t4, by rw [t5, HU.out, HN.out]; exact hsg3.used _⟩
        obtain ⟨vr, hbr⟩ := HSG.out.blk
        have hbx3 : Bx w0 Bf tk (w3.setCell ⟨g, 1, none⟩ (.int .i64 ((U + (9 + n) : Nat) : Int))) := (HBX.out.chg hbr hch).chg hb3 hset
        have hbk3 : Bk lp D R (w3.setCell ⟨g, 1, none⟩ (.int .i64 ((U + (9 + n) : Nat) : Int))) := bk_ch (bk_ch HBK.out hbr hch) hb3 hset
        have hb4 := (Blk.new w2 31 #[.int .i64 kn, .slice A n c]).below hn3 (by simp)
        have hb5 : Blk (w3.setCell ⟨g, 1, none⟩ (.int .i64 ((U + (9 + n) : Nat) : Int))) w2.heap.size 31 #[.int .i64 kn, .slice A n c] := hb4.far (p := ⟨g, 1, none⟩) (fun e => hb4.ne_ hb3 (by decide) e) _
        obtain ⟨x0, x1, -, -⟩ := fzf hb5
        obtain ⟨fn, tmps, assign, body, hy, hYR⟩ := HY.out tk ((kdF r, datF r), A, c) _ ⟨hsc, hbx3⟩ hbk3
        rw [show itV ((kdF r, datF r), A, c) = .agg #[.int .i64 kn, .slice A n c] by unfold itV; simp only; rw [HN.out, HKN.out]] at hy
        clear hb4 hb5 hbk3 hbx3 hbr hsc hset hb3 hsg3 t1 t2 t3 t4 t5 ho3 hch hN2 hch3 hn3
        generalize (w3.setCell ⟨g, 1, none⟩ (.int .i64 ((U + (9 + n) : Nat) : Int))) = w4 at *
        refine (‹∀ (a : Act) (w : World), Code.wp _ _ _ a w → _› : _) _ _ ?_
        refine (wpIn_wide (n := 3 - 1)).1 ?_
        gi_wp2
        refine hYR.mono ?_
        rintro e W5 ⟨rfl, ⟨hsc5, hbx5⟩, hbk5⟩
        gi_wp2
        refine ⟨⟨_, ⟨hsc5, hbx5⟩, hbk5⟩, ?_⟩
        obtain ⟨-, r5, g1, -, -, g4⟩ := hsc5
        rw [g4.leftN, HM.out]
        have k1 := congrArg List.length HE1.out
        have k2 := congrArg List.length g1
        rw [List.length_append, HU.out] at k1
        rw [List.length_append, List.map_append, fbs_append, List.length_append, HU.out] at k2
        simp only [List.map_cons, List.map_nil, fbs_cons, fbs_nil, List.append_nil, fb_length] at k2
        omega
    · have hS0 := state_any w0.heap.size g U r wr hrl HSG.out
      have HST := Lib.hid hs
      obtain ⟨q, hq⟩ : ∃ q, st r = q := ⟨_, rfl⟩
      rw [hq] at hS0 hs
      have HS0 := Lib.hid hS0
      have hqb : ((q : Int) == 1) = false := by simp; omega
      clear hS0 hq hs
      go_wp2_with (go_at_call 22; refine HS0.out.mono ?_; rintro e w1 ⟨rfl, hn1⟩)
      go_end0
      refine ⟨⟨_, rfl⟩, tk, ?_, ⟨⟨HR.out.keep hn1, r, HE1.out, HE2.out, HE3.out, by rw [HU.out]; exact HSG.out.new hn1⟩, HBX.out.keep hn1⟩, bk_new HBK.out hn1⟩
      unfold AllTk
      rw [HE1.out, List.drop_left']
      · exact HST.out
      · rfl
end Go.Proofs.Ytlbbhheaginddaa.fr
