/-
  packet.Get: its closure, walked.
-/
import Derived.Test.YtgddfclclibcgaaDoorPkC
import Derived.Laws.BitsAllLaws
namespace Go.Proofs.YtgddfclclibcgaaDoor.pk
open Go.RowKit Go.Shelf Go.Proofs.YtgddfclclibcgaaDoor.mem Go.Proofs.YtgddfclclibcgaaDoor.kit Go.Proofs.YtgddfclclibcgaaDoor.rng
set_option linter.unusedVariables false
attribute [local go_sem] Oper.semAt_some

theorem keeps_new {W W' : World} (h : New W W') : KeepsOthers W W' := ⟨h.size, fun k o hk _ => (h.block k (Array.getElem?_eq_some_iff.1 hk).1).trans hk⟩
theorem new_put {w0 W : World} {l : Nat} (o' : Obj) (h : New w0 W) (hl : w0.heap.size ≤ l) : New w0 (W.putObj l o') :=
  ((Ch.of_new (S := fun j => j = l) h).then (ch_put o') (fun i hi e => e)).below (Nat.le_refl _) (fun k hk e => by have e' : k = l := e; omega)

/-- Where Get's closure stands: its four boxes. -/
structure GB (w0 : World) (A : Value) (p k : Int) (b : Nat) (v : Int) (w : World) : Prop where
  new : New w0 w
  le : w0.heap.size ≤ b
  b0 : Blk w b 22 #[A]
  b1 : Blk w (b + 1) 2 #[.int .i64 p]
  b2 : Blk w (b + 2) 3 #[.int .i64 k]
  b3 : Blk w (b + 3) 27 #[.int .u64 v]
theorem GB.keep {w0 w w' : World} {A : Value} {p k v : Int} {b : Nat} (h : GB w0 A p k b v w) (hn : New w w') : GB w0 A p k b v w' :=
  ⟨New.then h.new hn, h.le, h.b0.below hn h.b0.lt, h.b1.below hn h.b1.lt, h.b2.below hn h.b2.lt, h.b3.below hn h.b3.lt⟩

set_option maxRecDepth 100000 in
set_option maxHeartbeats 1000000 in
theorem get_arg (w0 w : World) (A : Option Addr) (n c : Nat) (p k : Int) (b : Nat) (h : GB w0 (.slice A n c) p k b 0 w) (hT : SzT w) (hk : isz k = false) :
    Calls Tryd.prog 24 #[.pointer (some ⟨b, 0, none⟩), .pointer (some ⟨b + 1, 0, none⟩), .pointer (some ⟨b + 2, 0, none⟩), .pointer (some ⟨b + 3, 0, none⟩)] w (Fault w 2) := by
  have c0 : w.cell? ⟨b, 0, none⟩ = some (.slice A n c) := (h.b0.cell 0).trans rfl
  have c1 : w.cell? ⟨b + 1, 0, none⟩ = some (.int .i64 p) := (h.b1.cell 0).trans rfl
  have c2 : w.cell? ⟨b + 2, 0, none⟩ = some (.int .i64 k) := (h.b2.cell 0).trans rfl
  have HN := Lib.hid (number_arg A n c p k w hT hk)
  clear h hT
  go_enter Tryd.func24, Tryd.ntmps24
  go_wp2_with (go_at_call 22; (with_reducible refine HN.out.mono ?_); rintro e w1 ⟨rfl, rfl⟩)
  exact ⟨rfl, rfl, rfl⟩
set_option maxRecDepth 100000 in
set_option maxHeartbeats 1000000 in
theorem get_bounds (w0 w : World) (A : Option Addr) (n c : Nat) (p k : Int) (b : Nat) (h : GB w0 (.slice A n c) p k b 0 w) (hT : SzT w) (hk : isz k = true) (hn : n ≤ maxLen) (hp : p < 0 ∨ (n : Int) - k < p) :
    Calls Tryd.prog 24 #[.pointer (some ⟨b, 0, none⟩), .pointer (some ⟨b + 1, 0, none⟩), .pointer (some ⟨b + 2, 0, none⟩), .pointer (some ⟨b + 3, 0, none⟩)] w (Fault w 112) := by
  have c0 : w.cell? ⟨b, 0, none⟩ = some (.slice A n c) := (h.b0.cell 0).trans rfl
  have c1 : w.cell? ⟨b + 1, 0, none⟩ = some (.int .i64 p) := (h.b1.cell 0).trans rfl
  have c2 : w.cell? ⟨b + 2, 0, none⟩ = some (.int .i64 k) := (h.b2.cell 0).trans rfl
  have HN := Lib.hid (number_bounds A n c p k w hT hk hn hp)
  clear h hT hp
  go_enter Tryd.func24, Tryd.ntmps24
  go_wp2_with (go_at_call 22; (with_reducible refine HN.out.mono ?_); rintro e w1 ⟨rfl, rfl⟩)
  exact ⟨rfl, rfl, rfl⟩

/-- While a number is got. -/
structure GS (w0 wc : World) (A : Value) (p k : Nat) (b gn g o c : Nat) (l : List UInt8) (x : Nat) (W : World) : Prop where
  gb : GB w0 A p k b ((beN ((pieceOf l p k).take x) * 256 ^ (k - x) : Nat) : Int) W
  ln : b + 3 < gn
  bn : Blk W gn 42 #[.slice (some ⟨g, o + p, none⟩) k (c - p)]
  cv : Ch (fun j => j = b + 3) wc W
  ws : w0.heap.size ≤ wc.heap.size
theorem GS.keep {w0 wc W W' : World} {A : Value} {p k b gn g o c x : Nat} {l : List UInt8} (h : GS w0 wc A p k b gn g o c l x W) (hn : New W W') : GS w0 wc A p k b gn g o c l x W' :=
  ⟨h.gb.keep hn, h.ln, h.bn.below hn h.bn.lt, h.cv.then (Ch.of_new (S := fun _ => False) hn) (fun _ _ e => e.elim), h.ws⟩
theorem GS.put {w0 wc W : World} {A : Value} {p k b gn g o c x : Nat} {l : List UInt8} (h : GS w0 wc A p k b gn g o c l x W) {j : Nat} {ob : Obj} (o' : Obj) (hj : wc.heap.size ≤ j) (hl : W.heap[j]? = some ob) (ho : ob.isCells = false) : GS w0 wc A p k b gn g o c l x (W.putObj j o') :=
  ⟨⟨new_put o' h.gb.new (Nat.le_trans h.ws hj), h.gb.le, blk_put h.gb.b0 o' hl ho, blk_put h.gb.b1 o' hl ho, blk_put h.gb.b2 o' hl ho, blk_put h.gb.b3 o' hl ho⟩, h.ln, blk_put h.bn o' hl ho, h.cv.then (ch_put o') (fun i hi e => by have e' : i = j := e; omega), h.ws⟩

theorem GS.step {w0 wc W : World} {A : Value} {p k b gn g o c x : Nat} {l : List UInt8} (h : GS w0 wc A p k b gn g o c l x W) (hx : x < k) (hp : p + k ≤ l.length) {V : Nat} (hV : V = beN ((pieceOf l p k).take (x + 1)) * 256 ^ (k - (x + 1))) :
    KeepsOthers W (W.setCell ⟨b + 3, 0, none⟩ (.int .u64 (V : Int))) ∧ GS w0 wc A p k b gn g o c l (x + 1) (W.setCell ⟨b + 3, 0, none⟩ (.int .u64 (V : Int))) := by
  have hle := h.gb.le
  have hln := h.ln
  have hset : ∀ {j : Nat} {t : TypeId} {cs : Array Value}, Blk W j t cs → j ≠ b + 3 → Blk (W.setCell ⟨b + 3, 0, none⟩ (.int .u64 (V : Int))) j t cs := fun hb hne => hb.far (p := ⟨b + 3, 0, none⟩) hne _
  refine ⟨⟨by simp [World.setCell], fun j ob hj hc => ?_⟩, ⟨⟨h.gb.new.setCell (p := ⟨b + 3, 0, none⟩) (by simp; omega) _, hle, hset h.gb.b0 (by omega), hset h.gb.b1 (by omega), hset h.gb.b2 (by omega), ?_⟩, hln, hset h.bn (by omega), h.cv.setCell (p := ⟨b + 3, 0, none⟩) (fun _ => rfl) _, h.ws⟩⟩
  · refine (Below.heap_setCell _ _ _ j (fun e => ?_)).trans hj
    exact cells_ne h.gb.b3 hj hc e.symm
  · rw [← hV]
    exact h.gb.b3.set_ 0 _
theorem piece_get {l : List UInt8} {p k x : Nat} (hx : x < k) (hp : p + k ≤ l.length) : ∃ (h : x < (pieceOf l p k).length) (h2 : p + x < l.length), (pieceOf l p k)[x] = l[p + x] := by
  have h : x < (pieceOf l p k).length := by simp [pieceOf]; omega
  refine ⟨h, by omega, ?_⟩
  simp [pieceOf]
/-- The next byte of the number. -/
theorem byte_step {l : List UInt8} {p k x : Nat} (hx : x < k) (hk : k ≤ 8) (hp : p + k ≤ l.length) : ∃ y : Nat, y < 256 ∧ (∃ h2 : p + x < l.length, l[p + x].toNat = y) ∧
    beN ((pieceOf l p k).take x) * 256 ^ (k - x) < 18446744073709551616 ∧ y * 2 ^ (8 * (k - 1 - x)) < 18446744073709551616 ∧
    ((beN ((pieceOf l p k).take x) * 256 ^ (k - x)) ||| (y * 2 ^ (8 * (k - 1 - x)))) = beN ((pieceOf l p k).take (x + 1)) * 256 ^ (k - (x + 1)) := by
  obtain ⟨h1, h2, e⟩ := piece_get hx hp
  have hb := l[p + x].toNat_lt
  refine ⟨l[p + x].toNat, hb, ⟨h2, rfl⟩, ?_, ?_, ?_⟩
  · refine fit_lt (k := 0) (n := x) (by have := beN_lt ((pieceOf l p k).take x); rwa [List.length_take, Nat.min_eq_left (by omega)] at this) (by omega)
  · rw [pow_256]
    exact fit_lt (k := 0) (n := 1) (by simpa using hb) (by omega)
  · have e1 : k - x = (k - 1 - x) + 1 := by omega
    have e2 : k - (x + 1) = k - 1 - x := by omega
    rw [e1, or_step _ _ _ hb, e2, take_snoc h1, beN_snoc, e]

set_option maxRecDepth 100000 in
set_option maxHeartbeats 4000000 in
theorem get_ok (w0 w : World) (g o n c : Nat) (p k : Nat) (b : Nat) (l : List UInt8) (hn : n = l.length) (h : GB w0 (.slice (some ⟨g, o, none⟩) n c) p k b 0 w) (hT : SzT w) (hk : isz k = true) (hc : n ≤ c) (hcm : c ≤ maxLen) (hp : p + k ≤ n) (hR : Reads w0 w0.heap.size 1 (some ⟨g, o, none⟩) n (vb l)) :
    Calls Tryd.prog 24 #[.pointer (some ⟨b, 0, none⟩), .pointer (some ⟨b + 1, 0, none⟩), .pointer (some ⟨b + 2, 0, none⟩), .pointer (some ⟨b + 3, 0, none⟩)] w fun e w' => e = .returned (.tuple #[]) ∧ Ch (fun j => j = b + 3) w w' ∧ GB w0 (.slice (some ⟨g, o, none⟩) n c) p k b ((beN (pieceOf l p k) : Nat) : Int) w' := by
  refine (callsIn_wide (n := 3)).1 ?_
  refine callsIn_of_wp_marks Tryd.func24 rfl trivial ?_ rfl
  simp only [Tryd.ntmps24, List.size_toArray, List.length_cons, List.length_nil, Nat.reduceAdd, Nat.reduceSub, Array.replicate_succ, Array.replicate_zero, List.push_toArray, List.append_toArray, List.nil_append, List.cons_append]
  have hmf : ∀ (fn : Fn) (first cap : Array Value) (w : World), (Instr.makeFunc fn first cap).run Tryd.prog w = .ok (.func fn first cap) w := fun _ _ _ _ => rfl
  have c0 : w.cell? ⟨b, 0, none⟩ = some (.slice (some ⟨g, o, none⟩) n c) := (h.b0.cell 0).trans rfl
  have c1 : w.cell? ⟨b + 1, 0, none⟩ = some (.int .i64 (p : Int)) := (h.b1.cell 0).trans rfl
  have c2 : w.cell? ⟨b + 2, 0, none⟩ = some (.int .i64 (k : Int)) := (h.b2.cell 0).trans rfl
  have HNA := Lib.hid (number_ok g o n c p k w hT hk hc hcm hp)
  have hkr := isz_rng hk
  have hk1 : 1 ≤ k := by omega
  have hk8 : k ≤ 8 := by omega
  have HR := Lib.hid hR
  have HN := Lib.hid hn
  have HB := Lib.hid h
  clear h hT hkr hR hn
  refine wpIn_wide.2 ?_
  go_wp2_with (go_at_call 22; (with_reducible refine HNA.out.mono ?_); rintro e w1 ⟨rfl, rfl⟩)
  have hI0 : GS w0 w (.slice (some ⟨g, o, none⟩) n c) p k b w.heap.size g o c l 0 (w.alloc (.cells #[.slice (some ⟨g, o + p, none⟩) k (c - p)] 42)) :=
    ⟨by
      have h := HB.out.keep (alloc_new w (.cells #[.slice (some ⟨g, o + p, none⟩) k (c - p)] 42))
      rw [show beN ((pieceOf l p k).take 0) * 256 ^ (k - 0) = 0 by simp [beN]]
      exact h, HB.out.b3.lt, Blk.new w _ _, Ch.of_new (alloc_new w _), HB.out.new.size⟩
  have hws : w0.heap.size ≤ w.heap.size := HB.out.new.size
  have hsz : (w.alloc (.cells #[.slice (some ⟨g, o + p, none⟩) k (c - p)] 42)).heap.size = w.heap.size + 1 := by simp
  have HG : Hid (g < w0.heap.size ∧ ∀ (j : Nat) (h : j < l.length), w0.cell? ⟨g, o + j, none⟩ = some (.int .u8 (l[j].toNat : Int))) := Lib.hid (by
    obtain ⟨ad, e, hb, hcell⟩ := HR.out.2 (by omega)
    injection e with e
    subst e
    exact ⟨hb, fun j hj => by have := hcell j _ (vb_get l j hj); rwa [Addr.add_lit] at this⟩)
  clear c0 c1 c2
  generalize (w.alloc (.cells #[.slice (some ⟨g, o + p, none⟩) k (c - p)] 42)) = Wl at hI0 hsz ⊢
  refine (wpIn_wide (n := 3)).1 ?_
  refine range_at (α := Nat) rfl (by decide) (gf := 23) (fi := #[.slice (some ⟨g, o + p, none⟩) k (c - p)]) (lb := #[]) rfl trivial (enters_of Tryd.func23 (by kernel_rfl) rfl)
    (encs := fun x => #[.int .i64 (x : Int), .int .i64 ((8 * (k - 1 - x) : Nat) : Int)]) (fun _ => rfl)
    (fun xs W => GS w0 w (.slice (some ⟨g, o, none⟩) n c) p k b w.heap.size g o c l xs.length W)
    (fun pre x W => GS w0 w (.slice (some ⟨g, o, none⟩) n c) p k b w.heap.size g o c l pre.length W ∧ x = pre.length ∧ pre.length < k)
    (fun x a' W => a' = { tmps := #[.pointer (some ⟨b, 0, none⟩), .pointer (some ⟨b + 1, 0, none⟩), .pointer (some ⟨b + 2, 0, none⟩), .pointer (some ⟨b + 3, 0, none⟩), .pointer (some ⟨w.heap.size, 0, none⟩), .int .i64 (x : Int), .int .i64 ((8 * (k - 1 - x) : Nat) : Int), .slice (some ⟨g, o, none⟩) n c, .int .i64 (p : Int), .int .i64 (k : Int), .slice (some ⟨g, o + p, none⟩) k (c - p), .slice (some ⟨g, o + p, none⟩) k (c - p), .func (.func 23) #[.slice (some ⟨g, o + p, none⟩) k (c - p)] #[], .int .i64 (x : Int), .int .i64 ((8 * (k - 1 - x) : Nat) : Int), undef, undef, undef, undef, undef, undef, undef, undef, undef], defers := [] })
    (fun xs => xs.length = k) ?pI ?aI ?pB hI0 ?iter ?assign ?body ?done
  case pI =>
    rintro xs W lp o' o'' h1 hlp hlo ho
    exact h1.put o'' (by omega) hlo ho
  case aI =>
    rintro xs W o' h1
    exact h1.keep (alloc_new W o')
  case pB =>
    rintro pre x a' W lp o' o'' ⟨h1, h2, h3⟩ rfl hlp hlo ho
    exact ⟨⟨h1.put o'' (by omega) hlo ho, h2, h3⟩, rfl⟩
  case iter =>
    intro lp D R W hY h0 hb
    exact each_in (fun x W => GS w0 w (.slice (some ⟨g, o, none⟩) n c) p k b w.heap.size g o c l x W) g (o + p) k (c - p) ⟨hk1, hk8⟩ lp D R W hY h0 hb
  case assign =>
    rintro lp pre x W K ⟨h1, rfl, h3⟩ hK
    gi_wp2
    exact hK _ _ (KeepsOthers.refl _) ⟨h1, (by trivial), h3⟩ (by first | trivial | rfl)
  case body =>
    rintro lp pre x a' W ⟨h1, rfl, h3⟩ rfl
    obtain ⟨x, hxk⟩ : ∃ x, pre.length = x := ⟨_, rfl⟩
    rw [hxk] at h1 h3 ⊢
    have HXK := Lib.hid (show (pre ++ [x]).length = x + 1 by simp [hxk])
    clear hxk
    obtain ⟨y, hy, ⟨h2, hly⟩, hv, hs, hor⟩ := byte_step (l := l) (p := p) h3 hk8 (by rw [← HN.out]; exact hp)
    have hcell := HG.out.2 (p + x) h2
    rw [hly, ← Nat.add_assoc] at hcell
    have d1 := (h1.gb.new.cell (p := ⟨g, o + p + x, none⟩) HG.out.1).trans hcell
    have d3 : W.cell? ⟨b + 3, 0, none⟩ = some (.int .u64 ((beN ((pieceOf l p k).take x) * 256 ^ (k - x) : Nat) : Int)) := (h1.gb.b3.cell 0).trans rfl
    have z3 := h1.gb.b3.frozen 0
    have dn : W.cell? ⟨w.heap.size, 0, none⟩ = some (.slice (some ⟨g, o + p, none⟩) k (c - p)) := (h1.bn.cell 0).trans rfl
    have HST := Lib.hid (fun V => h1.step (V := V) h3 (by rw [← HN.out]; exact hp))
    obtain ⟨U, hU⟩ : ∃ U, beN ((pieceOf l p k).take x) * 256 ^ (k - x) = U := ⟨_, rfl⟩
    obtain ⟨U', hU'⟩ : ∃ U', beN ((pieceOf l p k).take (x + 1)) * 256 ^ (k - (x + 1)) = U' := ⟨_, rfl⟩
    rw [hU] at d3 hv hor
    rw [hU'] at hor
    obtain ⟨z, hz⟩ : ∃ z, 8 * (k - 1 - x) = z := ⟨_, rfl⟩
    rw [hz] at hs hor ⊢
    have hz56 : z ≤ 64 := by omega
    have e1 : IntKind.u64.wrap ((y : Int) * 2 ^ z) = ((y * 2 ^ z : Nat) : Int) := by
      rw [show (y : Int) * 2 ^ z = ((y * 2 ^ z : Nat) : Int) by push_cast; rfl]
      exact IntWalk.u64_in _ ⟨by omega, by omega⟩
    have e2 : bits BinOp.or IntKind.u64 (U : Int) ((y * 2 ^ z : Nat) : Int) = (U' : Int) := by rw [u64_or_nat _ _ hv hs, hor]
    obtain ⟨sh, hsh⟩ : ∃ sh, y * 2 ^ z = sh := ⟨_, rfl⟩
    rw [hsh] at e1 e2
    have HU' := Lib.hid hU'
    have t1 : (x : Int) < (k : Int) := by omega
    have e0 : IntKind.u64.wrap (y : Int) = (y : Int) := IntWalk.u64_in _ ⟨by omega, by omega⟩
    clear h1 h2 hly hv hs hor hcell hU hU' hsh hz
    have hd1 : 1 ≤ 3 - 1 - 1 := by omega
    gi_wp2
    gi_region_with (fail)
    all_goals
      obtain ⟨r1, r2⟩ := HST.out U' HU'.out.symm
      refine ⟨⟨r1.size, r1.same⟩, ?_⟩
      show GS w0 w (.slice (some ⟨g, o, none⟩) n c) p k b w.heap.size g o c l (pre ++ [x]).length _
      rw [HXK.out]
      exact r2.keep (Below.drew (new_refl _))
  case done =>
    rintro D xs W hD hS h1 hK
    rw [hS] at h1
    have HK := Lib.hid hK
    have H1 := Lib.hid h1.gb
    have HCV := Lib.hid h1.cv
    clear h1 hK
    gi_wp2
    refine ⟨by simp, .inl ⟨_, _, rfl, run_takeDeferred HK.out, ?_⟩⟩
    have h2 := H1.out
    rw [List.take_of_length_le (by simp [pieceOf]; omega), Nat.sub_self, Nat.pow_zero, Nat.mul_one] at h2
    refine ⟨.tuple #[], by simp [results, Tryd.results24, go_sem], rfl, HCV.out.then (ch_put _) (fun i hi e => by have e' : i = D := e; omega), ?_⟩
    exact ⟨new_put _ h2.new (by omega), h2.le, blk_put h2.b0 _ HK.out rfl, blk_put h2.b1 _ HK.out rfl, blk_put h2.b2 _ HK.out rfl, blk_put h2.b3 _ HK.out rfl⟩
end Go.Proofs.YtgddfclclibcgaaDoor.pk
