/-
  Contracts of frame's scan: Scan.
-/
import Derived.Test.YtlbbhheaginddaaFramesB
namespace Go.Proofs.Ytlbbhheaginddaa.fr
open Go.RowKit Go.Shelf Go.Proofs.Ytlbbhheaginddaa.mem Go.Proofs.Ytlbbhheaginddaa.kit Go.Proofs.Ytlbbhheaginddaa.wire Go.Proofs.Ytlbbhheaginddaa.crc Go.Proofs.Ytlbbhheaginddaa.rng
set_option linter.unusedVariables false
attribute [local go_sem] Oper.semAt_some

theorem cells_ne {W : World} {b : Nat} {t : TypeId} {cs : Array Value} (h : Blk W b t cs) {l : Nat} {o : Obj} (hl : W.heap[l]? = some o) (ho : o.isCells = false) : b ≠ l := by
  rintro rfl
  unfold Blk at h
  rw [h] at hl
  injection hl with hl
  subst hl
  cases ho
theorem own_ne {W : World} {base n size : Nat} {e : TypeId} {v : Value} {xs : List Value} (h : W.ownsRow base e size v n xs) {l : Nat} {o : Obj} (hl : W.heap[l]? = some o) (ho : o.isCells = false) : ∀ j, v.ownBlock = some j → ¬ j = l := by
  rintro j hj rfl
  rcases h.2 with ⟨rfl, _⟩ | ⟨g, cap, cur, rfl, _, hg, _⟩
  · simp [Value.ownBlock] at hj
  · have : g = j := by simpa [Value.ownBlock] using hj
    subst this
    rw [hg] at hl
    injection hl with hl
    subst hl
    cases ho
theorem ch_put {W : World} {l : Nat} (o' : Obj) : Ch (fun j => j = l) W (W.putObj l o') :=
  ⟨rfl, rfl, rfl, by simp, fun k _ hn => World.putObj_heap_other hn⟩
theorem blk_put {W : World} {b : Nat} {t : TypeId} {cs : Array Value} (h : Blk W b t cs) {l : Nat} {o : Obj} (o' : Obj) (hl : W.heap[l]? = some o) (ho : o.isCells = false) : Blk (W.putObj l o') b t cs :=
  h.ch (ch_put o') (cells_ne h hl ho)
theorem new_put {w0 W : World} {l : Nat} (o' : Obj) (h : New w0 W) (hl : w0.heap.size ≤ l) : New w0 (W.putObj l o') :=
  ((Ch.of_new (S := fun j => j = l) h).then (ch_put o') (fun i hi e => e)).below (Nat.le_refl _) (fun k hk e => by have e' : k = l := e; omega)
theorem Sc.put {w0 W : World} {g : Nat} {l : List UInt8} {tk : List It} (h : Sc w0 g l tk W) {lp : Nat} {o : Obj} (o' : Obj) (hg : w0.heap.size ≤ lp) (hl : W.heap[lp]? = some o) (ho : o.isCells = false) : Sc w0 g l tk (W.putObj lp o') := by
  obtain ⟨hr, r, h1, h2, h3, h4⟩ := h
  obtain ⟨v, hb⟩ := h4.blk
  refine ⟨⟨new_put o' hr.new hg, fun k hk => ⟨(hr.row k hk).1, own_ch (hr.row k hk).2 (ch_put o') (own_ne (hr.row k hk).2 hl ho)⟩, hr.apart⟩, r, h1, h2, h3, h4.below ?_ ?_⟩
  · exact (ch_put (W := W) (l := lp) o').below hr.new.size (fun k hk e => by have e' : k = lp := e; omega)
  · exact World.putObj_heap_other (cells_ne hb hl ho)
theorem Bx.put {w0 W : World} {Bf : Nat} {tk : List It} (h : Bx w0 Bf tk W) {lp : Nat} {o : Obj} (o' : Obj) (hl : W.heap[lp]? = some o) (ho : o.isCells = false) : Bx w0 Bf tk (W.putObj lp o') := by
  obtain ⟨v, hb, hw⟩ := h
  exact ⟨v, blk_put hb o' hl ho, own_ch hw (ch_put o') (own_ne hw hl ho)⟩

theorem own_cells {W : World} {base n size : Nat} {e : TypeId} {v : Value} {xs : List Value} (h : W.ownsRow base e size v n xs) {j : Nat} (hj : v.ownBlock = some j) : base ≤ j ∧ ∃ cs, Blk W j e cs := by
  refine ⟨(h.lt j hj).1, ?_⟩
  rcases h.2 with ⟨rfl, _⟩ | ⟨g, cap, cur, rfl, _, hg, _⟩
  · simp [Value.ownBlock] at hj
  · have : g = j := by simpa [Value.ownBlock] using hj
    subst this
    exact ⟨cur, hg⟩
theorem Sc.ch {w0 W W' : World} {g : Nat} {l : List UInt8} {tk : List It} {S : Nat → Prop} (h : Sc w0 g l tk W) (hch : Ch S W W') (hS : ∀ j, j < W.heap.size → S j → w0.heap.size ≤ j ∧ j ≠ g ∧ ∃ t cs, Blk W j t cs ∧ 5 ≠ t) : Sc w0 g l tk W' := by
  obtain ⟨hr, r, h1, h2, h3, h4⟩ := h
  have hn : New w0 W' := ((Ch.of_new (S := S) hr.new).then hch (fun i hi e => e)).below (Nat.le_refl _) (fun k hk e => (hS k (Nat.lt_of_lt_of_le hk hr.new.size) e).1)
  refine ⟨⟨hn, fun k hk => ⟨(hr.row k hk).1, own_ch (hr.row k hk).2 hch (fun j hj e => ?_)⟩, hr.apart⟩, r, h1, h2, h3, h4.below (hch.below hr.new.size (fun k hk e => (hS k hk e).1)) (hch.block g h4.lt.2 (fun e => (hS g h4.lt.2 e).2.1 rfl))⟩
  obtain ⟨_, cs, hb⟩ := own_cells (hr.row k hk).2 hj
  obtain ⟨_, _, t, cs', hb', ht⟩ := hS j hb.lt e
  exact hb.ne_ hb' ht rfl
theorem Sc.blk {w0 W : World} {g : Nat} {l : List UInt8} {tk : List It} (h : Sc w0 g l tk W) : ∃ cs, Blk W g 53 cs := by
  obtain ⟨hr, r, h1, h2, h3, h4⟩ := h
  obtain ⟨v, hb⟩ := h4.blk
  exact ⟨_, hb⟩
theorem Sc.grown {w0 W W' : World} {g n : Nat} {l : List UInt8} {tk : List It} {v : Value} {xs : List Value} (h : Sc w0 g l tk W) (ho : W.ownsRow w0.heap.size 31 2 v n xs) (hg : W.grownBy W' v.ownBlock) : Sc w0 g l tk W' :=
  h.ch (Ch.of_grown hg) fun j hj e => by
    obtain ⟨hb, cs, hc⟩ := own_cells ho e.symm
    obtain ⟨cs', hb'⟩ := h.blk
    exact ⟨hb, hc.ne_ hb' (by decide), _, cs, hc, by decide⟩
theorem Sc.box {w0 W : World} {g Bf : Nat} {l : List UInt8} {tk : List It} {cs : Array Value} (h : Sc w0 g l tk W) (hb : Blk W Bf 32 cs) (hB : w0.heap.size ≤ Bf) (u : Value) : Sc w0 g l tk (W.setCell ⟨Bf, 0, none⟩ u) :=
  h.ch ((Ch.refl (fun j => j = Bf) W).setCell (p := ⟨Bf, 0, none⟩) (fun _ => rfl) u) fun j hj e => by
    have e' : j = Bf := e
    subst e'
    obtain ⟨cs', hb'⟩ := h.blk
    exact ⟨hB, hb.ne_ hb' (by decide), _, cs, hb, by decide⟩
theorem Sc.len {w0 W : World} {g : Nat} {l : List UInt8} {tk : List It} (h : Sc w0 g l tk W) : 9 * tk.length ≤ l.length := by
  obtain ⟨hr, r, h1, _⟩ := h
  have e := congrArg List.length h1
  rw [List.length_append] at e
  have : ∀ t : List It, 9 * t.length ≤ (fbs (t.map (·.1))).length := fun t => by
    induction t with
    | nil => simp
    | cons a t ih => rw [List.map_cons, fbs_cons, List.length_append, fb_length, List.length_cons]; omega
  have := this tk
  omega

theorem new_two (W : World) (t : TypeId) (a b : Value) : ∀ j u, [a, b][j]? = some u → (W.alloc (.cells #[a, b] t)).cell? ((⟨W.heap.size, 0, none⟩ : Addr).add j) = some u := by
  intro j u hu
  have hb := Blk.new W t #[a, b]
  rw [Addr.add_lit, Nat.zero_add, hb.cell j]
  simpa using hu
theorem keep_same {w : World} {b : Nat} {v x : Value} {p : Addr} (h0 : w.cell? ⟨b, 0, none⟩ = some v) (h1 : w.cell? p = some x) (hne : p.block ≠ b) : (w.setCell ⟨b, 0, none⟩ v).cell? ⟨b, 0, none⟩ = some v ∧ (w.setCell ⟨b, 0, none⟩ v).cell? p = some x :=
  ⟨World.cell?_setCell_same' _ _ _ (by rw [h0]; rfl), (World.cell?_setCell_other w _ _ v (fun e => hne (by rw [← e]))).trans h1⟩
theorem itC_snoc (tk : List It) (x : It) : ((tk ++ [x]).map itC).flatten = (tk.map itC).flatten ++ [.int .i64 (x.1.1.toNat : Int), .slice x.2.1 x.1.2.length x.2.2] := by
  simp [itC]

/-- What a scan tells. -/
def ScD (w : World) (l : List UInt8) (e : Ending) (w' : World) : Prop :=
  ∃ (xs : List It) (A : Option Addr) (c : Nat), xs.map (·.1) = told l ∧ e = .returned (.tuple #[.slice A xs.length c, .int .i64 ((fbs (told l)).length : Int), .bool (st (crc.left l) == 2)]) ∧
    w'.ownsRow w.heap.size 31 2 (.slice A xs.length c) xs.length (xs.map itC).flatten ∧ RSt w (xs.map itR) w'

theorem frame_info : (Try.prog.info? 31).map (fun i => (i.zero, i.size, i.bytes)) = some (some (.agg #[.int .i64 0, .slice none 0 0]), 2, 32) := by kernel_rfl

set_option maxRecDepth 100000 in
set_option maxHeartbeats 2000000 in
theorem scan_any (A : Option Addr) (c : Nat) (l : List UInt8) (w : World) (hl : l.length ≤ 1099511627776) (hc : l.length ≤ c ∧ c ≤ maxLen) (hA : Reads w w.heap.size 1 A l.length (vb l)) :
    Calls Try.prog 6 #[.slice A l.length c] w (ScD w l) := by
  refine (callsIn_wide (n := 3)).1 ?_
  refine callsIn_of_wp_marks Try.func6 rfl trivial ?_ rfl
  simp only [Try.ntmps6, List.size_toArray, List.length_cons, List.length_nil, Nat.reduceAdd, Nat.reduceSub, Array.replicate_succ, Array.replicate_zero, List.push_toArray, List.append_toArray, List.nil_append, List.cons_append]
  have HA := Lib.hid hA
  clear hA
  refine wpIn_wide.2 ?_
  go_wp2
  have hn0 := New.then (alloc_new w (.cells #[.slice none 0 0] 32)) (alloc_new _ (.cells #[.slice A l.length c, .int .i64 0] 53))
  have hBf : Blk ((w.alloc (.cells #[.slice none 0 0] 32)).alloc (.cells #[.slice A l.length c, .int .i64 0] 53)) w.heap.size 32 #[.slice none 0 0] := (Blk.new w _ _).alloc _
  have hBg : Blk ((w.alloc (.cells #[.slice none 0 0] 32)).alloc (.cells #[.slice A l.length c, .int .i64 0] 53)) (w.heap.size + 1) 53 #[.slice A l.length c, .int .i64 0] := by
    have h := Blk.new (w.alloc (.cells #[.slice none 0 0] 32)) 53 #[.slice A l.length c, .int .i64 0]
    rwa [World.size_alloc] at h
  have hI0 : Sc w (w.heap.size + 1) l [] ((w.alloc (.cells #[.slice none 0 0] 32)).alloc (.cells #[.slice A l.length c, .int .i64 0] 53)) ∧ Bx w w.heap.size [] ((w.alloc (.cells #[.slice none 0 0] 32)).alloc (.cells #[.slice A l.length c, .int .i64 0] 53)) :=
    ⟨⟨(RSt.nil w).keep hn0, l, rfl, rfl, rfl, A, c, hBg, hc.1, hc.2, HA.out.below hn0, by omega⟩, .slice none 0 0, hBf, World.ownsRow_nil _ _ _ _⟩
  have hsz : ((w.alloc (.cells #[.slice none 0 0] 32)).alloc (.cells #[.slice A l.length c, .int .i64 0] 53)).heap.size = w.heap.size + 2 := by simp
  clear hBf hBg hn0
  generalize ((w.alloc (.cells #[.slice none 0 0] 32)).alloc (.cells #[.slice A l.length c, .int .i64 0] 53)) = Wl at hI0 hsz ⊢
  obtain ⟨i0, hi, hz0, hz1, hz2⟩ := info_parts frame_info
  refine (wpIn_wide (n := 3)).1 ?_
  refine range_at (α := It) rfl (by decide) (gf := 21) (fi := #[.pointer (some ⟨w.heap.size + 1, 0, none⟩)]) (lb := #[]) rfl trivial (enters_of Try.func21 (by kernel_rfl) rfl)
    (encs := fun x => #[itV x]) (fun _ => rfl)
    (fun tk W => Sc w (w.heap.size + 1) l tk W ∧ Bx w w.heap.size tk W)
    (fun tk x W => Sc w (w.heap.size + 1) l (tk ++ [x]) W ∧ Bx w w.heap.size tk W)
    (fun x a' W => ∃ bf, Blk W bf 31 #[.int .i64 (x.1.1.toNat : Int), .slice x.2.1 x.1.2.length x.2.2] ∧ a' = { tmps := #[.slice A l.length c, undef, .pointer (some ⟨w.heap.size, 0, none⟩), .int .i64 0, .bool false, .pointer (some ⟨w.heap.size + 1, 0, none⟩), .pointer (some ⟨bf, 0, none⟩), .slice A l.length c, .agg #[.slice A l.length c], .agg #[.slice A l.length c, .int .i64 0], .func (.func 21) #[.pointer (some ⟨w.heap.size + 1, 0, none⟩)] #[], itV x, undef, undef, undef, undef, undef, undef, undef, undef, undef, undef], defers := [] })
    (AllTk l) ?pI ?aI ?pB hI0 ?iter ?assign ?body ?done
  case pI =>
    rintro tk W lp o o' ⟨h1, h2⟩ hlp hlo ho
    exact ⟨h1.put o' (by omega) hlo ho, h2.put o' hlo ho⟩
  case aI =>
    rintro tk W o ⟨h1, h2⟩
    exact ⟨h1.keep (alloc_new W o), h2.keep (alloc_new W o)⟩
  case pB =>
    rintro tk x a' W lp o o' ⟨h1, h2⟩ ⟨bf, h3, h4⟩ hlp hlo ho
    exact ⟨⟨h1.put o' (by omega) hlo ho, h2.put o' hlo ho⟩, bf, blk_put h3 o' hlo ho, h4⟩
  case iter =>
    intro lp D R W hY h0 hb
    exact frames_in w (w.heap.size + 1) w.heap.size l hl lp D R W hY h0 hb
  case assign =>
    rintro lp tk x W K ⟨h1, h2⟩ hK
    gi_wp2
    refine hK _ _ (KeepsOthers.alloc _ _) ⟨h1.keep (alloc_new W _), h2.keep (alloc_new W _)⟩ ⟨W.heap.size, Blk.new W _ _, rfl⟩
  case body =>
    rintro lp tk x a' W ⟨h1, v, hbv, hrow⟩ ⟨bf, hbf, rfl⟩
    have hv : Boxed W w.heap.size 32 v := hbv
    have hc := hv.cell
    obtain ⟨x0, x1, -, -⟩ := fzf hbf
    have hlen := h1.len
    rw [List.length_append] at hlen
    have hB := h1.rows.new.size
    have HB := Lib.hid hB
    have HR := Lib.hid hrow
    have HV := Lib.hid hv
    have H1 := Lib.hid h1
    have HBV := Lib.hid hbv
    have hb1 : tk.length + 1 ≤ maxLen := by unfold maxLen; simp at hlen; omega
    have hb2 : (tk.length + 1) * 32 ≤ 140737488355328 := by simp at hlen; omega
    clear hv hbv hrow hbf hlen
    gi_wp2_with (gi_at_builtin; refine wpListIn_append_own _ rfl _ _ 32 rfl w.heap.size 31 i0 (.agg #[.int .i64 0, .slice none 0 0]) 2 32 Try.underlying32 hi hz0 hz1 hz2 rfl (by decide) _ _ _ rfl (HR.out.alloc _) ⟨W.heap.size, 0, none⟩ 1 1 [.int .i64 (x.1.1.toNat : Int), .slice x.2.1 x.1.2.length x.2.2] rfl rfl (new_two _ _ _ _) (by simp [Value.oneCell']) hb1 hb2 (by have := HB.out; simp; omega) ?_; intro v' w1 hown' hgrow _; obtain ⟨g', cap', rfl⟩ := ownsRow_succ hown'; obtain ⟨hv1, hv2, hr2, hk2, hb3⟩ := HV.out.appended (by decide) HR.out HB.out (Nat.le_refl _) hown' hgrow; have hc1 := hv1.cell; have hf1 := hv1.frozen)
    refine ⟨hk2, ?_, _, hv2, ?_⟩
    · exact ((H1.out.keep (alloc_new W _)).grown (HR.out.alloc _) hgrow).box (cs := #[v]) hv1 (Nat.le_refl _) _
    · rw [itC_snoc, List.length_append]
      exact hr2
  case done =>
    rintro D xs W hD hS ⟨h1, v, hbv, hrow⟩ hK
    obtain ⟨hrows, r, e1, e2, e3, hsg⟩ := h1
    have hr0 : l.drop (fbs (xs.map (·.1))).length = r := by
      have h := congrArg (List.drop (fbs (xs.map (·.1))).length) e1
      rwa [List.drop_left' rfl] at h
    unfold AllTk at hS
    rw [hr0] at hS
    obtain ⟨t1, t2⟩ := scan_not r hS
    rw [t1, List.append_nil] at e2
    rw [t2] at e3
    obtain ⟨vA, vc, rfl, -, -, -⟩ := own_len hrow
    have hst := state_any w.heap.size (w.heap.size + 1) _ r W (by have := congrArg List.length e1; rw [List.length_append] at this; omega) hsg
    obtain ⟨U, hU⟩ : ∃ U, (fbs (xs.map (·.1))).length = U := ⟨_, rfl⟩
    obtain ⟨q, hq⟩ : ∃ q, st r = q := ⟨_, rfl⟩
    rw [hU] at hsg
    rw [hq] at hst
    have c0 : W.cell? ⟨w.heap.size, 0, none⟩ = some (.slice vA xs.length vc) := (hbv.cell 0).trans rfl
    have z0 := hbv.frozen 0
    obtain ⟨vg, hbg⟩ := hsg.blk
    have c1 : W.cell? ⟨w.heap.size + 1, 1, none⟩ = some (.int .i64 (U : Int)) := (hbg.cell 1).trans rfl
    have HST := Lib.hid (fun V (hV : New W V) => state_any w.heap.size (w.heap.size + 1) U r V (by have := congrArg List.length e1; rw [List.length_append] at this; omega) (hsg.new hV))
    rw [hq] at HST
    have HBV := Lib.hid hbv
    have HBG := Lib.hid hbg
    have HROW := Lib.hid hrow
    have HROWS := Lib.hid hrows
    have HE2 := Lib.hid e2
    have HE3 := Lib.hid e3
    have HU := Lib.hid hU
    have HQ := Lib.hid hq
    have HK := Lib.hid hK
    clear hst hsg hrow hrows e1 e2 e3 hU hq hK hS hr0 t1 t2 hbv hbg
    go_wp2
    go_region_held3 (fun w' => w'.cell? ⟨w.heap.size, 0, none⟩ = some (.slice vA xs.length vc) ∧ w'.cell? ⟨w.heap.size + 1, 1, none⟩ = some (.int .i64 (U : Int)))
      (first | exact keep_same s0 s1 (by simp) | go_keep)
      (first
        | (go_at_call 22; refine (HST.out _ (Below.drew (new_refl W))).mono ?_; rintro e w3 ⟨rfl, hn3⟩; have hN3 : New W w3 := New.then (Below.drew (new_refl W)) hn3; have s0 : w3.cell? ⟨w.heap.size, 0, none⟩ = some (.slice vA xs.length vc) := ((HBV.out.below hN3 HBV.out.lt).cell 0).trans rfl; have s1 : w3.cell? ⟨w.heap.size + 1, 1, none⟩ = some (.int .i64 (U : Int)) := ((HBG.out.below hN3 HBG.out.lt).cell 1).trans rfl; have y0 := (HBV.out.below hN3 HBV.out.lt).frozen 0))
    go_wp2
    have hDW : D < W.heap.size := (Array.getElem?_eq_some_iff.1 HK.out).1
    have hbv3 := HBV.out.below hN3 HBV.out.lt
    have hK3 : (w3.setCell ⟨w.heap.size, 0, none⟩ (.slice vA xs.length vc)).heap[D]? = some (.deferred (some [])) := (Below.heap_setCell w3 _ _ D (by simp; omega)).trans ((hN3.block D hDW).trans HK.out)
    have hch : Ch (fun j => j = w.heap.size) w3 (w3.setCell ⟨w.heap.size, 0, none⟩ (.slice vA xs.length vc)) := (Ch.refl (fun j => j = w.heap.size) w3).setCell (p := ⟨w.heap.size, 0, none⟩) (fun _ => rfl) _
    have hbv4 : Blk (w3.setCell ⟨w.heap.size, 0, none⟩ (.slice vA xs.length vc)) w.heap.size 32 #[.slice vA xs.length vc] := hbv3.set_ 0 _
    have hrow4 := own_ch (own_new HROW.out hN3) hch (fun j hj e => own_blk_ne (own_new HROW.out hN3) hbv3 (by decide) (hj.trans (congrArg some e)))
    have hrows4 := (HROWS.out.keep hN3).chg hbv3 (by decide) (Nat.le_refl _) hch
    generalize (w3.setCell ⟨w.heap.size, 0, none⟩ (.slice vA xs.length vc)) = w4 at *
    refine ⟨by simp, .inl ⟨_, _, rfl, run_takeDeferred hK3, ?_⟩⟩
    have hc9 : (w4.putObj D (.deferred none)).cell? ⟨w.heap.size, 0, none⟩ = some (.slice vA xs.length vc) := ((blk_put hbv4 (.deferred none) hK3 rfl).cell 0).trans rfl
    refine ⟨.tuple #[.slice vA xs.length vc, .int .i64 (U : Int), .bool ((q : Int) == 2)], by simp [results, Try.results6, go_sem, hc9], ?_⟩
    refine ⟨xs, vA, vc, HE2.out.symm, ?_, own_ch hrow4 (ch_put _) (own_ne hrow4 hK3 rfl), ⟨new_put _ hrows4.new (by omega), fun k hk => ⟨(hrows4.row k hk).1, own_ch (hrows4.row k hk).2 (ch_put _) (own_ne (hrows4.row k hk).2 hK3 rfl)⟩, hrows4.apart⟩⟩
    have eq2 : ((q : Int) == 2) = (q == 2) := by
      rw [Bool.eq_iff_iff, beq_iff_eq, beq_iff_eq]
      omega
    rw [HE2.out, HU.out, HE3.out, HQ.out, eq2]
end Go.Proofs.Ytlbbhheaginddaa.fr
