/-
  The frames' laws: own, with what lies behind the lent bytes; theirs.
-/
import Derived.Test.YtlbbhheaginddaaOwn
namespace Go.Proofs.Ytlbbhheaginddaa.fr
open Go.RowKit Go.Proofs.Ytlbbhheaginddaa.mem Go.Proofs.Ytlbbhheaginddaa.kit Go.Proofs.Ytlbbhheaginddaa.wire Go.Proofs.Ytlbbhheaginddaa.crc
set_option linter.unusedVariables false

/-- own while it goes on. -/
structure OSK (w : World) (fs : List Fi) (k : Nat) (v : Value) (wr : World) : Prop where
  new : New w wr
  row : ∃ gs : List Fi, gs.map Fi.kd = (fs.take k).map Fi.kd ∧ wr.ownsRow w.heap.size 31 2 v k (fiCs gs) ∧ ∀ i (h : i < gs.length), ∃ b, gs[i].A = some ⟨b, 0, none⟩ ∧ Blk wr b 5 (vb (gs[i].data ++ marks 1 12)).toArray ∧ gs[i].c = gs[i].data.length + 12
theorem OSK.start (w : World) (fs : List Fi) : OSK w fs 0 (.slice none 0 0) w := ⟨new_refl w, [], by simp, World.ownsRow_nil _ _ _ _, fun i h => absurd h (by simp)⟩
theorem OSK.keep {w wr w' : World} {fs : List Fi} {k : Nat} {v : Value} (h : OSK w fs k v wr) (hn : New wr w') : OSK w fs k v w' := by
  obtain ⟨h1, gs, h2, h3, h4⟩ := h
  exact ⟨New.then h1 hn, gs, h2, own_new h3 hn, fun i hi => by obtain ⟨b, e, hb, hc⟩ := h4 i hi; exact ⟨b, e, hb.below hn hb.lt, hc⟩⟩
theorem OSK.step {w w7 w9 : World} {fs gs : List Fi} {k b cl : Nat} {v v9 : Value} {x : Fi} (hk : k < fs.length) (hx : fs[k] = x) (hn : New w w7) (hg : gs.map Fi.kd = (fs.take k).map Fi.kd) (hrow : w7.ownsRow w.heap.size 31 2 v k (fiCs gs)) (hd : ∀ i (h : i < gs.length), ∃ b, gs[i].A = some ⟨b, 0, none⟩ ∧ Blk w7 b 5 (vb (gs[i].data ++ marks 1 12)).toArray ∧ gs[i].c = gs[i].data.length + 12)
    (hb : Blk w7 b 5 (vb (x.data ++ marks 1 12)).toArray) (hown9 : w9.ownsRow w.heap.size 31 2 v9 (k + 1) (fiCs gs ++ [.int .i64 x.kind, .slice (some ⟨b, 0, none⟩) x.data.length cl])) {o : Obj} (hg9 : (w7.alloc o).grownBy w9 v.ownBlock) (hcl : cl = x.data.length + 12) : OSK w fs (k + 1) v9 w9 := by
  have hch := Ch.of_grown hg9
  have hne : ∀ (j : Nat) (cs : Array Value), Blk w7 j 5 cs → ¬ some j = v.ownBlock := fun j cs h e => by
    obtain ⟨_, cs', h'⟩ := own_cells hrow e.symm
    exact h.ne_ h' (by decide) rfl
  refine ⟨(New.then hn (alloc_new w7 o)).grown hg9 (New.then hn (alloc_new w7 o)).size (fun j hj => (own_cells hrow hj).1), gs ++ [⟨x.kind, some ⟨b, 0, none⟩, cl, x.data⟩], ?_, ?_, fun i hi => ?_⟩
  · rw [← List.take_append_getElem hk, List.map_append, List.map_append, hg, hx]
    rfl
  · rw [fiCs_snoc]
    exact hown9
  · by_cases hlt : i < gs.length
    · obtain ⟨b', e, hb', hc'⟩ := hd i hlt
      rw [List.getElem_append_left hlt]
      exact ⟨b', e, (hb'.alloc _).ch hch (hne _ _ hb'), hc'⟩
    · have : i = gs.length := by simp at hi; omega
      subst this
      refine ⟨b, by simp, ?_, by simpa using hcl⟩
      have := (hb.alloc o).ch hch (hne _ _ hb)
      simpa using this

/-- Frames of the call's own. -/
def OwnK (w : World) (fs : List Fi) (e : Ending) (w' : World) : Prop :=
  ∃ (gs : List Fi) (A : Option Addr) (c : Nat), gs.map Fi.kd = fs.map Fi.kd ∧ e = .returned (.slice A gs.length c) ∧ FrArr w' A gs ∧ New w w' ∧ ∀ i (h : i < gs.length), ∃ b, gs[i].A = some ⟨b, 0, none⟩ ∧ Blk w' b 5 (vb (gs[i].data ++ marks 1 12)).toArray ∧ gs[i].c = gs[i].data.length + 12
theorem OSK.done {w wr : World} {fs : List Fi} {v : Value} (h : OSK w fs fs.length v wr) : OwnK w fs (.returned v) wr := by
  obtain ⟨hn, gs, hg, hrow, hd⟩ := h
  rw [List.take_length] at hg
  have hl : gs.length = fs.length := by have := congrArg List.length hg; simpa using this
  obtain ⟨A, c, rfl, -, -, hr⟩ := own_len hrow
  refine ⟨gs, A, c, hg, by rw [hl], ?_, hn, hd⟩
  intro i hi
  rcases hrow.2 with ⟨e, e0⟩ | ⟨g, cap, cur, e, _⟩
  · omega
  · simp only [Value.slice.injEq] at e
    obtain ⟨rfl, -, -⟩ := e
    exact frArr_of (fs := gs) hr hl.symm (fun i h => by obtain ⟨b, e, hb, -⟩ := hd i h; rw [e]; exact lent_reads hb) i hi

set_option maxRecDepth 100000 in
set_option maxHeartbeats 2000000 in
theorem own_kept (A : Option Addr) (n c : Nat) (fs : List Fi) (w : World) (hn : n = fs.length) (hnl : n ≤ 268435456) (hdl : ∀ i (h : i < fs.length), fs[i].data.length ≤ 1099511627776) (hA : FrOf w A fs) :
    Calls Try.prog 12 #[.slice A n c] w (OwnK w fs) := by
  obtain ⟨i0, hi, hz0, hz1, hz2⟩ := info_parts frame_info
  have HA := Lib.hid hA
  have HN := Lib.hid hn
  have HD := Lib.hid hdl
  clear hA hn hdl
  go_enter Try.func12, Try.ntmps12
  go_wp2
  go_loopw [3, 4] (fun v i wr => ∃ k : Nat, k ≤ n ∧ i = .int .i64 k ∧ OSK w fs k v wr) (fun _ i _ => n - (intOf i).toNat)
  case atStart => exact ⟨0, Nat.zero_le _, rfl, OSK.start w fs⟩
  case round =>
    obtain ⟨k, hk, rfl, hos⟩ := hrel
    have HQS := Lib.hid hos
    clear hos
    by_cases hlt : k < n
    · have hlf : k < fs.length := by have := HN.out; omega
      obtain ⟨g, o, rfl, hg, g0, g1, hr⟩ := HA.out k hlf
      have k0 := (HQS.out.new.cell (p := ⟨g, o + k * 2, none⟩) hg).trans g0
      have k1 := (HQS.out.new.cell (p := ⟨g, o + k * 2 + 1, none⟩) hg).trans g1
      have hdk := HD.out k hlf
      have hr1 := hr.new (Below.drew HQS.out.new)
      obtain ⟨x, hx⟩ : ∃ x, fs[k] = x := ⟨_, rfl⟩
      rw [hx] at k0 k1 hdk hr1 g0 g1
      have HG0 := Lib.hid g0
      have HG1 := Lib.hid g1
      have HX := Lib.hid hx
      have HL := Lib.hid (lent_any x.A x.c x.data wr.drew hdk hr1)
      have HG := Lib.hid hg
      have hN0 : New wr wr.drew := Below.drew (new_refl wr)
      obtain ⟨gs, hgs, hrow, hds⟩ := HQS.out.row
      have HGS := Lib.hid hgs
      have HROW := Lib.hid hrow
      have HDS := Lib.hid hds
      have HK0 := Lib.hid k0
      have HK1 := Lib.hid k1
      have HBW := Lib.hid HQS.out.new.size
      have hb1 : k + 1 ≤ maxLen := by unfold maxLen; omega
      have hb2 : (k + 1) * 32 ≤ 140737488355328 := by omega
      have HGR : Hid (g < wr.heap.size) := Lib.hid (by have := HQS.out.new.size; omega)
      clear hr g0 g1 hr1 hx hgs hrow hds hg
      go_wp2
      go_region_held3 (fun w' => w'.cell? ⟨g, o + k * 2, none⟩ = some (.int .i64 x.kind) ∧ w'.cell? ⟨g, o + k * 2 + 1, none⟩ = some (.slice x.A x.data.length x.c))
        (go_keep)
        (first
          | (go_at_call 24; (with_reducible refine HL.out.mono ?_); rintro e w7 ⟨⟨rfl, hb7⟩, hn7⟩; have hN7 := New.then hN0 hn7; have HB7 := Lib.hid hb7; clear hb7; have s0 := (hN7.cell (p := ⟨g, o + k * 2, none⟩) HGR.out).trans HK0.out; have s1 := (hN7.cell (p := ⟨g, o + k * 2 + 1, none⟩) HGR.out).trans HK1.out)
          | (refine step_append_any _ (by rfl) (.tmp 11) (.tmp 24) 32 (by rfl) w.heap.size 31 i0 (.agg #[.int .i64 0, .slice none 0 0]) 2 32 Try.underlying32 hi hz0 hz1 hz2 rfl (by decide) _ k (fiCs gs) (by rfl) (own_new HROW.out (New.then hN7 (alloc_new w7 _))) _ (some ⟨w7.heap.size, 0, none⟩) 1 1 [.int .i64 x.kind, .slice (some ⟨wr.heap.size, 0, none⟩) x.data.length (x.data.length + 12)] (by rfl) (reads_two w7 _ _ _) (by simp [Value.oneCell']) hb1 hb2 (by have := hN7.size; have := HBW.out; simp; omega) ?_; intro v9 w9 hown9 hg9 hat9; have s0 := cell_grown (p := ⟨g, o + k * 2, none⟩) (New.then HQS.out.new hN7) (own_new HROW.out hN7) hg9 HG.out HG0.out; have s1 := cell_grown (p := ⟨g, o + k * 2 + 1, none⟩) (New.then HQS.out.new hN7) (own_new HROW.out hN7) hg9 HG.out HG1.out))
      go_wp2_with fail
      go_roundw
      case rel =>
        exact ⟨k + 1, by omega, by go_num, OSK.step hlf HX.out (New.then HQS.out.new hN7) HGS.out (own_new HROW.out hN7) (fun i h => by obtain ⟨b, e, hb, hc⟩ := HDS.out i h; exact ⟨b, e, hb.below hN7 hb.lt, hc⟩) HB7.out hown9 hg9 rfl⟩
      case measure => simp [intOf]; omega
    · obtain rfl : k = n := by omega
      have h := HQS.out
      have hn := HN.out
      subst hn
      have HE := Lib.hid h.done
      clear h
      go_wp2
      go_ret
      exact HE.out

/-- theirs while it goes on. -/
structure TS (w : World) (fs : List Fi) (k : Nat) (v : Value) (wr : World) : Prop where
  new : New w wr
  row : wr.ownsRow w.heap.size 36 2 v k (fiCs (fs.take k))
theorem TS.done {w wr : World} {fs : List Fi} {v : Value} (h : TS w fs fs.length v wr) (hd : ∀ i (h : i < fs.length), Reads w w.heap.size 1 fs[i].A fs[i].data.length (vb fs[i].data)) : ∃ A c, v = .slice A fs.length c ∧ FrArr wr A fs ∧ New w wr := by
  obtain ⟨hn, hrow⟩ := h
  rw [List.take_length] at hrow
  obtain ⟨A, c, rfl, -, -, hr⟩ := own_len hrow
  refine ⟨A, c, rfl, fun i hi => ?_, hn⟩
  rcases hrow.2 with ⟨e, e0⟩ | ⟨g, cap, cur, e, _⟩
  · omega
  · simp only [Value.slice.injEq] at e
    obtain ⟨rfl, -, -⟩ := e
    exact frArr_of (fs := fs) hr rfl (fun i h => (hd i h).new hn) i hi
theorem rframe_info : (Try.prog.info? 36).map (fun i => (i.zero, i.size, i.bytes)) = some (some (.agg #[.int .i64 0, .slice none 0 0]), 2, 32) := by kernel_rfl

set_option maxRecDepth 100000 in
set_option maxHeartbeats 2000000 in
theorem theirs_any (A : Option Addr) (n c : Nat) (fs : List Fi) (w : World) (hn : n = fs.length) (hnl : n ≤ 268435456) (hA : FrOf w A fs) :
    Calls Try.prog 13 #[.slice A n c] w fun e w' => ∃ A' c', e = .returned (.slice A' n c') ∧ FrArr w' A' fs ∧ New w w' := by
  obtain ⟨i0, hi, hz0, hz1, hz2⟩ := info_parts rframe_info
  have HA := Lib.hid hA
  have HN := Lib.hid hn
  have HT0 : Hid (TS w fs 0 (.slice none 0 0) w) := Lib.hid ⟨new_refl w, World.ownsRow_nil _ _ _ _⟩
  clear hA hn
  go_enter Try.func13, Try.ntmps13
  go_wp2
  go_loopw [3, 4] (fun v i wr => ∃ k : Nat, k ≤ n ∧ i = .int .i64 k ∧ TS w fs k v wr) (fun _ i _ => n - (intOf i).toNat)
  case atStart => exact ⟨0, Nat.zero_le _, rfl, HT0.out⟩
  case round =>
    clear HT0
    obtain ⟨k, hk, rfl, hos⟩ := hrel
    have HOS := Lib.hid hos
    clear hos
    by_cases hlt : k < n
    · have hlf : k < fs.length := by have := HN.out; omega
      obtain ⟨g, o, rfl, hg, g0, g1, hr⟩ := HA.out k hlf
      have k0 := (HOS.out.new.cell (p := ⟨g, o + k * 2, none⟩) hg).trans g0
      have k1 := (HOS.out.new.cell (p := ⟨g, o + k * 2 + 1, none⟩) hg).trans g1
      have HCS : Hid (fiCs (fs.take (k + 1)) = fiCs (fs.take k) ++ [.int .i64 fs[k].kind, .slice fs[k].A fs[k].data.length fs[k].c]) := Lib.hid (by rw [← List.take_append_getElem hlf, fiCs_snoc])
      obtain ⟨x, hx⟩ : ∃ x, fs[k] = x := ⟨_, rfl⟩
      rw [hx] at k0 k1 HCS
      have HK0 := Lib.hid k0
      have HK1 := Lib.hid k1
      have HROW := Lib.hid HOS.out.row
      have HNW := Lib.hid HOS.out.new
      have hb1 : k + 1 ≤ maxLen := by unfold maxLen; omega
      have hb2 : (k + 1) * 32 ≤ 140737488355328 := by omega
      have HGR : Hid (g < w.heap.size) := Lib.hid hg
      have HNA : Hid (New wr.drew (wr.drew.alloc (.cells #[.int .i64 x.kind, .slice x.A x.data.length x.c] 36))) := Lib.hid (alloc_new _ _)
      clear hr g0 g1 hx hg
      obtain ⟨dl, hdl⟩ : ∃ dl, x.data.length = dl := ⟨_, rfl⟩
      rw [hdl] at k1 HCS HK1 HNA
      clear hdl
      go_wp2
      go_region_held3 (fun w' => w'.cell? ⟨g, o + k * 2, none⟩ = some (.int .i64 x.kind) ∧ w'.cell? ⟨g, o + k * 2 + 1, none⟩ = some (.slice x.A dl x.c))
        (go_keep)
        (first
          | (refine step_append_any _ (by rfl) (.tmp 11) (.tmp 23) 37 (by rfl) w.heap.size 36 i0 (.agg #[.int .i64 0, .slice none 0 0]) 2 32 Try.underlying37 hi hz0 hz1 hz2 rfl (by decide) _ k (fiCs (fs.take k)) (by rfl) (own_new (own_new HROW.out (Below.drew (new_refl wr))) HNA.out) _ (some ⟨wr.heap.size, 0, none⟩) 1 1 [.int .i64 x.kind, .slice x.A dl x.c] (by rfl) (reads_two wr.drew _ _ _) (by simp [Value.oneCell']) hb1 hb2 (Nat.le_trans HNW.out.size HNA.out.size) ?_; intro v9 w9 hown9 hg9 hat9; have HN9 := Lib.hid ((New.then (Below.drew HNW.out) HNA.out).grown hg9 (Nat.le_trans HNW.out.size HNA.out.size) (fun j hj => (own_cells HROW.out hj).1)); have s0 := (HN9.out.cell (p := ⟨g, o + k * 2, none⟩) HGR.out).trans ((HNW.out.cell (p := ⟨g, o + k * 2, none⟩) HGR.out).symm.trans HK0.out); have s1 := (HN9.out.cell (p := ⟨g, o + k * 2 + 1, none⟩) HGR.out).trans ((HNW.out.cell (p := ⟨g, o + k * 2 + 1, none⟩) HGR.out).symm.trans HK1.out))
          | fail)
      go_wp2_with fail
      go_roundw
      case rel => exact ⟨k + 1, by omega, by go_num, HN9.out, by rw [HCS.out]; exact hown9⟩
      case measure => simp [intOf]; omega
    · obtain rfl : k = n := by omega
      have h := HOS.out
      have hn := HN.out
      subst hn
      obtain ⟨A9, c9, rfl, h9, n9⟩ := h.done (fun i hi => by obtain ⟨g, o, e, hg, g0, g1, hr⟩ := HA.out i hi; exact hr)
      have H9 := Lib.hid h9
      have HN9 := Lib.hid n9
      clear h h9 n9 HOS
      go_wp2
      go_ret
      exact ⟨A9, ⟨c9, rfl⟩, H9.out, HN9.out⟩
end Go.Proofs.Ytlbbhheaginddaa.fr
