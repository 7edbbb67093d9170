/-
  packet.Set: its closure, walked.
-/
import Derived.Test.YtgddfclclibcgaaDoorPkE
namespace Go.Proofs.YtgddfclclibcgaaDoor.pk
open Go.RowKit Go.Shelf Go.Proofs.YtgddfclclibcgaaDoor.mem Go.Proofs.YtgddfclclibcgaaDoor.kit Go.Proofs.YtgddfclclibcgaaDoor.rng
set_option linter.unusedVariables false
attribute [local go_sem] Oper.semAt_some

/-- A block whose first cells are bytes. -/
def Bq (W : World) (g m : Nat) (L : List UInt8) : Prop := ∃ cs : Array Value, Blk W g 5 cs ∧ cs.size = m ∧ L.length ≤ m ∧ ∀ (i : Nat) (h : i < L.length), cs[i]? = some (.int .u8 (L[i].toNat : Int))
theorem Bq.at_ {W : World} {g m i : Nat} {L : List UInt8} (h : Bq W g m L) (hi : i < L.length) : W.cell? ⟨g, i, none⟩ = some (.int .u8 (L[i].toNat : Int)) := by
  obtain ⟨cs, hb, hm, hl, hc⟩ := h
  exact (hb.cell i).trans (hc i hi)
theorem Bq.frozen {W : World} {g m : Nat} {L : List UInt8} (h : Bq W g m L) (i : Nat) : W.frozen? ⟨g, i, none⟩ = false := by
  obtain ⟨cs, hb, _⟩ := h
  exact hb.frozen i
theorem Bq.set {W : World} {g m i : Nat} {L : List UInt8} (h : Bq W g m L) (y : UInt8) : Bq (W.setCell ⟨g, i, none⟩ (.int .u8 (y.toNat : Int))) g m (L.set i y) := by
  obtain ⟨cs, hb, hm, hl, hc⟩ := h
  refine ⟨_, hb.set_ i _, by simpa using hm, by simpa using hl, fun k hk => ?_⟩
  have hk' : k < L.length := by simpa using hk
  have hck := hc k hk'
  have hlt := (Array.getElem?_eq_some_iff.1 hck).1
  rw [List.getElem_set]
  by_cases e : i = k
  · subst e
    rw [if_pos rfl, Array.getElem?_setIfInBounds_self_of_lt hlt]
  · rw [if_neg e, Array.getElem?_setIfInBounds_ne e]
    exact hck
theorem Bq.ch {W W' : World} {g m : Nat} {L : List UInt8} {S : Nat → Prop} (h : Bq W g m L) (hc : Ch S W W') (hg : ¬ S g) : Bq W' g m L := by
  obtain ⟨cs, hb, r⟩ := h
  exact ⟨cs, hb.ch hc hg, r⟩
theorem Bq.new {W W' : World} {g m : Nat} {L : List UInt8} (h : Bq W g m L) (hn : New W W') : Bq W' g m L := by
  obtain ⟨cs, hb, r⟩ := h
  exact ⟨cs, hb.below hn hb.lt, r⟩
theorem Bq.lt {W : World} {g m : Nat} {L : List UInt8} (h : Bq W g m L) : g < W.heap.size := by
  obtain ⟨cs, hb, _⟩ := h
  exact hb.lt
theorem Bq.full {W : World} {g : Nat} {L : List UInt8} (h : Bq W g L.length L) : Blk W g 5 (vb L).toArray := by
  obtain ⟨cs, hb, hm, hl, hc⟩ := h
  have e : cs = (vb L).toArray := by
    apply Array.ext
    · simp [hm, vb]
    · intro i h1 h2
      have h3 := hc i (by omega)
      have h4 := vb_cell L i (by omega)
      rw [Array.getElem?_eq_getElem h1] at h3
      rw [Array.getElem?_eq_getElem h2] at h4
      rw [Option.some.inj h3, Option.some.inj h4]
  rw [← e]
  exact hb
theorem Bq.of {W : World} {g : Nat} {L : List UInt8} (h : Blk W g 5 (vb L).toArray) : Bq W g L.length L := ⟨_, h, by simp [vb], Nat.le_refl _, fun i hi => vb_cell L i hi⟩

/-- While a number is set. -/
structure SS (w0 wc : World) (A : Value) (p k v b g m : Nat) (L : List UInt8) (W : World) : Prop where
  ch : Ch (fun j => j = g) w0 W
  lt : g < w0.heap.size
  le : w0.heap.size ≤ b
  b0 : Blk W b 22 #[A]
  b1 : Blk W (b + 1) 2 #[.int .i64 (p : Int)]
  b2 : Blk W (b + 2) 3 #[.int .i64 (k : Int)]
  b3 : Blk W (b + 3) 27 #[.int .u64 (v : Int)]
  d : Bq W g m L
  cc : Ch (fun j => j = g) wc W
  ws : w0.heap.size ≤ wc.heap.size
theorem SS.keep {w0 wc W W' : World} {A : Value} {p k v b g m : Nat} {L : List UInt8} (h : SS w0 wc A p k v b g m L W) (hn : New W W') : SS w0 wc A p k v b g m L W' :=
  ⟨h.ch.then (Ch.of_new (S := fun _ => False) hn) (fun _ _ e => e.elim), h.lt, h.le, h.b0.below hn h.b0.lt, h.b1.below hn h.b1.lt, h.b2.below hn h.b2.lt, h.b3.below hn h.b3.lt, h.d.new hn, h.cc.then (Ch.of_new (S := fun _ => False) hn) (fun _ _ e => e.elim), h.ws⟩
theorem SS.put {w0 wc W : World} {A : Value} {p k v b g m : Nat} {L : List UInt8} (h : SS w0 wc A p k v b g m L W) {j : Nat} {ob : Obj} (o' : Obj) (hj : wc.heap.size ≤ j) (hl : W.heap[j]? = some ob) (ho : ob.isCells = false) : SS w0 wc A p k v b g m L (W.putObj j o') := by
  have hlt := h.lt
  have hws := h.ws
  exact ⟨h.ch.then (ch_put o') (fun i hi e => by have e' : i = j := e; omega), h.lt, h.le, blk_put h.b0 o' hl ho, blk_put h.b1 o' hl ho, blk_put h.b2 o' hl ho, blk_put h.b3 o' hl ho, h.d.ch (ch_put o') (fun e => by have e' : g = j := e; omega), h.cc.then (ch_put o') (fun i hi e => by have e' : i = j := e; omega), h.ws⟩
theorem SS.set {w0 wc W : World} {A : Value} {p k v b g m : Nat} {L : List UInt8} (h : SS w0 wc A p k v b g m L W) (i : Nat) (y : UInt8) : SS w0 wc A p k v b g m (L.set i y) (W.setCell ⟨g, i, none⟩ (.int .u8 (y.toNat : Int))) := by
  have hlt := h.lt
  have hle := h.le
  have hset : ∀ {j : Nat} {t : TypeId} {cs : Array Value}, Blk W j t cs → j ≠ g → Blk (W.setCell ⟨g, i, none⟩ (.int .u8 (y.toNat : Int))) j t cs := fun hb hne => hb.far (p := ⟨g, i, none⟩) hne _
  exact ⟨h.ch.setCell (p := ⟨g, i, none⟩) (fun _ => rfl) _, h.lt, h.le, hset h.b0 (by omega), hset h.b1 (by omega), hset h.b2 (by omega), hset h.b3 (by omega), h.d.set y, h.cc.setCell (p := ⟨g, i, none⟩) (fun _ => rfl) _, h.ws⟩
structure SG (w0 wc : World) (A : Value) (p k v b g m gn c : Nat) (L : List UInt8) (x : Nat) (W : World) : Prop where
  s : SS w0 wc A p k v b g m (putN L p k v x) W
  ln : b + 3 < gn
  bn : Blk W gn 42 #[.slice (some ⟨g, p, none⟩) k (c - p)]
theorem SG.keep {w0 wc W W' : World} {A : Value} {p k v b g m gn c x : Nat} {L : List UInt8} (h : SG w0 wc A p k v b g m gn c L x W) (hn : New W W') : SG w0 wc A p k v b g m gn c L x W' := ⟨h.s.keep hn, h.ln, h.bn.below hn h.bn.lt⟩
theorem SG.put {w0 wc W : World} {A : Value} {p k v b g m gn c x : Nat} {L : List UInt8} (h : SG w0 wc A p k v b g m gn c L x W) {j : Nat} {ob : Obj} (o' : Obj) (hj : wc.heap.size ≤ j) (hl : W.heap[j]? = some ob) (ho : ob.isCells = false) : SG w0 wc A p k v b g m gn c L x (W.putObj j o') :=
  ⟨h.s.put o' hj hl ho, h.ln, blk_put h.bn o' hl ho⟩
theorem SG.step {w0 wc W : World} {A : Value} {p k v b g m gn c x : Nat} {L : List UInt8} (h : SG w0 wc A p k v b g m gn c L x W) (hx : x < k) (hp : p + k ≤ L.length) {Y : Int} (hY : Y = ((UInt8.ofNat (v / 256 ^ (k - 1 - x))).toNat : Int)) :
    KeepsOthers W (W.setCell ⟨g, p + x, none⟩ (.int .u8 Y)) ∧ SG w0 wc A p k v b g m gn c L (x + 1) (W.setCell ⟨g, p + x, none⟩ (.int .u8 Y)) := by
  subst hY
  have hln := h.ln
  have hle := h.s.le
  have hlt := h.s.lt
  refine ⟨⟨by simp [World.setCell], fun j ob hj hc => ?_⟩, ?_, hln, h.bn.far (p := ⟨g, p + x, none⟩) (by simp; omega) _⟩
  · refine (Below.heap_setCell _ _ _ j (fun e => ?_)).trans hj
    obtain ⟨cs, hb, _⟩ := h.s.d
    exact cells_ne hb hj hc e.symm
  · have := h.s.set (p + x) (UInt8.ofNat (v / 256 ^ (k - 1 - x)))
    rwa [putN_set (by omega)] at this

set_option maxRecDepth 100000 in
set_option maxHeartbeats 1000000 in
theorem set_arg (w0 w : World) (A : Option Addr) (n c : Nat) (p k v : Int) (b : Nat) (h : GB w0 (.slice A n c) p k b v w) (hT : SzT w) (hk : isz k = false) :
    Calls Tryd.prog 21 #[.pointer (some ⟨b, 0, none⟩), .pointer (some ⟨b + 1, 0, none⟩), .pointer (some ⟨b + 2, 0, none⟩), .pointer (some ⟨b + 3, 0, none⟩)] w (Fault w 2) := by
  have c0 : w.cell? ⟨b, 0, none⟩ = some (.slice A n c) := (h.b0.cell 0).trans rfl
  have c1 : w.cell? ⟨b + 1, 0, none⟩ = some (.int .i64 p) := (h.b1.cell 0).trans rfl
  have c2 : w.cell? ⟨b + 2, 0, none⟩ = some (.int .i64 k) := (h.b2.cell 0).trans rfl
  have HN := Lib.hid (number_arg A n c p k w hT hk)
  clear h hT
  go_enter Tryd.func21, Tryd.ntmps21
  go_wp2_with (go_at_call 22; (with_reducible refine HN.out.mono ?_); rintro e w1 ⟨rfl, rfl⟩)
  exact ⟨rfl, rfl, rfl⟩
set_option maxRecDepth 100000 in
set_option maxHeartbeats 1000000 in
theorem set_bounds (w0 w : World) (A : Option Addr) (n c : Nat) (p k v : Int) (b : Nat) (h : GB w0 (.slice A n c) p k b v w) (hT : SzT w) (hk : isz k = true) (hn : n ≤ maxLen) (hp : p < 0 ∨ (n : Int) - k < p) :
    Calls Tryd.prog 21 #[.pointer (some ⟨b, 0, none⟩), .pointer (some ⟨b + 1, 0, none⟩), .pointer (some ⟨b + 2, 0, none⟩), .pointer (some ⟨b + 3, 0, none⟩)] w (Fault w 112) := by
  have c0 : w.cell? ⟨b, 0, none⟩ = some (.slice A n c) := (h.b0.cell 0).trans rfl
  have c1 : w.cell? ⟨b + 1, 0, none⟩ = some (.int .i64 p) := (h.b1.cell 0).trans rfl
  have c2 : w.cell? ⟨b + 2, 0, none⟩ = some (.int .i64 k) := (h.b2.cell 0).trans rfl
  have HN := Lib.hid (number_bounds A n c p k w hT hk hn hp)
  clear h hT hp
  go_enter Tryd.func21, Tryd.ntmps21
  go_wp2_with (go_at_call 22; (with_reducible refine HN.out.mono ?_); rintro e w1 ⟨rfl, rfl⟩)
  exact ⟨rfl, rfl, rfl⟩

set_option maxRecDepth 100000 in
set_option maxHeartbeats 4000000 in
theorem set_ok (w0 w : World) (g m n c : Nat) (p k v : Nat) (b : Nat) (L : List UInt8) (h : SS w0 w (.slice (some ⟨g, 0, none⟩) n c) p k v b g m L w) (hn : n ≤ L.length) (hT : SzT w) (hk : isz k = true) (hc : n ≤ c) (hcm : c ≤ maxLen) (hp : p + k ≤ n) (hv : v < 18446744073709551616) :
    Calls Tryd.prog 21 #[.pointer (some ⟨b, 0, none⟩), .pointer (some ⟨b + 1, 0, none⟩), .pointer (some ⟨b + 2, 0, none⟩), .pointer (some ⟨b + 3, 0, none⟩)] w fun e w' => e = .returned (.tuple #[]) ∧ SS w0 w (.slice (some ⟨g, 0, none⟩) n c) p k v b g m (putN L p k v k) w' := by
  refine (callsIn_wide (n := 3)).1 ?_
  refine callsIn_of_wp_marks Tryd.func21 rfl trivial ?_ rfl
  simp only [Tryd.ntmps21, List.size_toArray, List.length_cons, List.length_nil, Nat.reduceAdd, Nat.reduceSub, Array.replicate_succ, Array.replicate_zero, List.push_toArray, List.append_toArray, List.nil_append, List.cons_append]
  have hmf : ∀ (fn : Fn) (first cap : Array Value) (w : World), (Instr.makeFunc fn first cap).run Tryd.prog w = .ok (.func fn first cap) w := fun _ _ _ _ => rfl
  have c0 : w.cell? ⟨b, 0, none⟩ = some (.slice (some ⟨g, 0, none⟩) n c) := (h.b0.cell 0).trans rfl
  have c1 : w.cell? ⟨b + 1, 0, none⟩ = some (.int .i64 (p : Int)) := (h.b1.cell 0).trans rfl
  have c2 : w.cell? ⟨b + 2, 0, none⟩ = some (.int .i64 (k : Int)) := (h.b2.cell 0).trans rfl
  have HNA := number_ok g 0 n c p k w hT hk hc hcm hp
  rw [Nat.zero_add] at HNA
  replace HNA := Lib.hid HNA
  have hkr := isz_rng hk
  have hk1 : 1 ≤ k := by omega
  have hk8 : k ≤ 8 := by omega
  have HN := Lib.hid hn
  have HB := Lib.hid h
  clear h hT hkr hn
  refine wpIn_wide.2 ?_
  go_wp2_with (go_at_call 22; (with_reducible refine HNA.out.mono ?_); rintro e w1 ⟨rfl, rfl⟩)
  have hI0 : SG w0 w (.slice (some ⟨g, 0, none⟩) n c) p k v b g m w.heap.size c L 0 (w.alloc (.cells #[.slice (some ⟨g, p, none⟩) k (c - p)] 42)) :=
    ⟨by rw [putN_0]; exact HB.out.keep (alloc_new w _), HB.out.b3.lt, Blk.new w _ _⟩
  have hws : w0.heap.size ≤ w.heap.size := HB.out.ch.size
  have hsz : (w.alloc (.cells #[.slice (some ⟨g, p, none⟩) k (c - p)] 42)).heap.size = w.heap.size + 1 := by simp
  clear c0 c1 c2
  generalize (w.alloc (.cells #[.slice (some ⟨g, p, none⟩) k (c - p)] 42)) = Wl at hI0 hsz ⊢
  refine (wpIn_wide (n := 3)).1 ?_
  refine range_at (α := Nat) rfl (by decide) (gf := 23) (fi := #[.slice (some ⟨g, p, none⟩) k (c - p)]) (lb := #[]) rfl trivial (enters_of Tryd.func23 (by kernel_rfl) rfl)
    (encs := fun x => #[.int .i64 (x : Int), .int .i64 ((8 * (k - 1 - x) : Nat) : Int)]) (fun _ => rfl)
    (fun xs W => SG w0 w (.slice (some ⟨g, 0, none⟩) n c) p k v b g m w.heap.size c L xs.length W)
    (fun pre x W => SG w0 w (.slice (some ⟨g, 0, none⟩) n c) p k v b g m w.heap.size c L pre.length W ∧ x = pre.length ∧ pre.length < k)
    (fun x a' W => a' = { tmps := #[.pointer (some ⟨b, 0, none⟩), .pointer (some ⟨b + 1, 0, none⟩), .pointer (some ⟨b + 2, 0, none⟩), .pointer (some ⟨b + 3, 0, none⟩), .pointer (some ⟨w.heap.size, 0, none⟩), .int .i64 (x : Int), .int .i64 ((8 * (k - 1 - x) : Nat) : Int), .slice (some ⟨g, 0, none⟩) n c, .int .i64 (p : Int), .int .i64 (k : Int), .slice (some ⟨g, p, none⟩) k (c - p), .slice (some ⟨g, p, none⟩) k (c - p), .func (.func 23) #[.slice (some ⟨g, p, none⟩) k (c - p)] #[], .int .i64 (x : Int), .int .i64 ((8 * (k - 1 - x) : Nat) : Int), undef, undef, undef, undef, undef, undef, undef], defers := [] })
    (fun xs => xs.length = k) ?pI ?aI ?pB hI0 ?iter ?assign ?body ?done
  case pI =>
    rintro xs W lp o' o'' h1 hlp hlo ho
    exact h1.put o'' (by omega) hlo ho
  case aI =>
    rintro xs W o' h1
    exact h1.keep (alloc_new W o')
  case pB =>
    rintro pre x a' W lp o' o'' ⟨h1, h2, h3⟩ rfl hlp hlo ho
    exact ⟨⟨h1.put o'' (by omega) hlo ho, h2, h3⟩, rfl⟩
  case iter =>
    intro lp D R W hY h0 hb
    exact each_in (fun x W => SG w0 w (.slice (some ⟨g, 0, none⟩) n c) p k v b g m w.heap.size c L x W) g p k (c - p) ⟨hk1, hk8⟩ lp D R W hY h0 hb
  case assign =>
    rintro lp pre x W K ⟨h1, rfl, h3⟩ hK
    gi_wp2
    exact hK _ _ (KeepsOthers.refl _) ⟨h1, (by trivial), h3⟩ (by first | trivial | rfl)
  case body =>
    rintro lp pre x a' W ⟨h1, rfl, h3⟩ rfl
    obtain ⟨x, hxk⟩ : ∃ x, pre.length = x := ⟨_, rfl⟩
    rw [hxk] at h1 h3 ⊢
    have HXK := Lib.hid (show (pre ++ [x]).length = x + 1 by simp [hxk])
    clear hxk
    have hpl : p + x < (putN L p k v x).length := by rw [putN_length (by have := HN.out; omega)]; have := HN.out; omega
    have d1 := h1.s.d.at_ hpl
    obtain ⟨oldv, hold⟩ : ∃ oldv, ((putN L p k v x)[p + x].toNat : Int) = oldv := ⟨_, rfl⟩
    rw [hold] at d1
    have z1 := h1.s.d.frozen (p + x)
    have d3 : W.cell? ⟨b + 3, 0, none⟩ = some (.int .u64 (v : Int)) := (h1.s.b3.cell 0).trans rfl
    have dn : W.cell? ⟨w.heap.size, 0, none⟩ = some (.slice (some ⟨g, p, none⟩) k (c - p)) := (h1.bn.cell 0).trans rfl
    have HST := Lib.hid (fun Y (hY : Y = ((UInt8.ofNat (v / 256 ^ (k - 1 - x))).toNat : Int)) => h1.step (Y := Y) h3 (by have := HN.out; omega) hY)
    have hY : IntKind.u8.wrap ((v : Int) / 2 ^ (8 * (k - 1 - x))) = ((UInt8.ofNat (v / 256 ^ (k - 1 - x))).toNat : Int) := by
      rw [← pow_256, UInt8.toNat_ofNat', show (2 : Int) ^ (8 * (k - 1 - x)) = ((2 ^ (8 * (k - 1 - x)) : Nat) : Int) by push_cast; rfl, ← Int.natCast_ediv]
      show IntKind.u8.wrap _ = _
      simp [IntKind.wrap, IntKind.bits, IntKind.signed]
    obtain ⟨Y, hYY⟩ : ∃ Y, ((UInt8.ofNat (v / 256 ^ (k - 1 - x))).toNat : Int) = Y := ⟨_, rfl⟩
    rw [hYY] at hY
    have HYY := Lib.hid hYY
    obtain ⟨z, hz⟩ : ∃ z, 8 * (k - 1 - x) = z := ⟨_, rfl⟩
    rw [hz] at hY ⊢
    have hz56 : z ≤ 64 := by omega
    have t1 : (x : Int) < (k : Int) := by omega
    clear h1 hpl hold hYY hz
    have hd1 : 1 ≤ 3 - 1 - 1 := by omega
    gi_wp2
    gi_region_with (fail)
    all_goals
      obtain ⟨r1, r2⟩ := HST.out Y HYY.out.symm
      refine ⟨⟨r1.size, r1.same⟩, ?_⟩
      show SG w0 w (.slice (some ⟨g, 0, none⟩) n c) p k v b g m w.heap.size c L (pre ++ [x]).length _
      rw [HXK.out]
      exact r2.keep (Below.drew (new_refl _))
  case done =>
    rintro D xs W hD hS h1 hK
    rw [hS] at h1
    have HK := Lib.hid hK
    have H1 := Lib.hid h1.s
    clear h1 hK
    gi_wp2
    refine ⟨by simp, .inl ⟨_, _, rfl, run_takeDeferred HK.out, ?_⟩⟩
    refine ⟨.tuple #[], by simp [results, Tryd.results21, go_sem], rfl, ?_⟩
    exact H1.out.put _ (by omega) HK.out rfl
end Go.Proofs.YtgddfclclibcgaaDoor.pk
