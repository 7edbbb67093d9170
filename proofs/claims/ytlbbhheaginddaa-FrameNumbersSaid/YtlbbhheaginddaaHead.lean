/-
  Contracts of frame's writers: a head, a frame that may not be.
-/
import Derived.Test.YtlbbhheaginddaaScanC
import Derived.Deep.DrawnRows
namespace Go.Proofs.Ytlbbhheaginddaa.fr
open Go.RowKit Go.Proofs.Ytlbbhheaginddaa.mem Go.Proofs.Ytlbbhheaginddaa.kit Go.Proofs.Ytlbbhheaginddaa.wire Go.Proofs.Ytlbbhheaginddaa.crc
set_option linter.unusedVariables false

/-- A row that grows out of nothing, made since w0. -/
structure Ac (w0 : World) (v : Value) (z : List UInt8) (w : World) : Prop where
  own : w.ownsRow w0.heap.size 5 1 v z.length (vb z)
  new : New w0 w
theorem Ac.keep {w0 w w' : World} {v : Value} {z : List UInt8} (h : Ac w0 v z w) (hn : New w w') : Ac w0 v z w' := ⟨own_new h.own hn, New.then h.new hn⟩
theorem Ac.made (w0 w : World) (h : New w0 w) : Ac w0 (.slice (some ⟨w.heap.size, 0, none⟩) 0 0) [] (w.alloc (.cells #[] 5)) :=
  ⟨World.ownsRow_made (e := 5) (base := w0.heap.size) (size := 1) w #[] 0 h.size (by unfold maxLen; omega) (by simp), h.alloc h.size _⟩
theorem Ac.call {w0 w : World} {v : Value} {z l : List UInt8} {f : Nat} {args : Array Value} (h : Ac w0 v z w) (hc : Calls Try.prog f args w (Got w l)) :
    Calls Try.prog f args w (fun e w' => ∃ A c, e = .returned (.slice A l.length c) ∧ Ac w0 v z w' ∧ Reads w' w'.heap.size 1 A l.length (vb l)) :=
  hc.mono fun e w' k => by obtain ⟨A, c, rfl, ho, hn⟩ := k; exact ⟨A, c, rfl, h.keep hn, (own_typed ho).2.1⟩
theorem step_ac {ops : Array Oper} {o : Oper} {a : Act} {K : Act → World → Prop} {Q : Exit → Act → World → Prop} {E : Prop} {w : World} (hgd : o.guard = none) (s x : Operand)
    (ho : o.op = .call { callee := .builtin .append, args := #[s, x], argTypes := #[24, 24] })
    {w0 : World} {v : Value} {z l : List UInt8} {A : Option Addr} {c : Nat} (h : Ac w0 v z w) (hs : a.eval s = v) (hx : a.eval x = .slice A l.length c) (hr : Reads w w.heap.size 1 A l.length (vb l)) (hb : z.length + l.length ≤ 1099511627776)
    (hK : ∀ v' w', Ac w0 v' (z ++ l) w' → K (a.put o.dst v') w') :
    if Region.wanted o (yielded ops a.tmps) = true then Oper.wp Try.prog o a w K Q else E := by
  obtain ⟨i0, hi, hz0, hz1, hz2⟩ := info_parts byte_info
  refine step_append_any w hgd s x 24 ho w0.heap.size 5 i0 _ 1 1 Try.underlying24 hi hz0 hz1 hz2 rfl (by omega) v _ _ hs h.own _ A l.length c (vb l) hx hr (vb_one _) (by unfold maxLen; omega) (by omega) h.new.size ?_
  intro v' w' hown hg _
  refine hK v' w' ⟨?_, h.new.grown hg h.new.size (fun k hk => (h.own.lt k hk).1)⟩
  rw [vb_append, List.length_append]
  exact hown
theorem reads_ac {w0 w : World} {v : Value} {z : List UInt8} (h : Ac w0 v z w) : ∃ A c, v = .slice A z.length c ∧ Reads w w.heap.size 1 A z.length (vb z) := by
  obtain ⟨A, c, rfl, _, _, hr⟩ := own_len h.own
  exact ⟨A, c, rfl, hr⟩


theorem Ac.drew {w0 w : World} {v : Value} {z : List UInt8} (h : Ac w0 v z w) : Ac w0 v z w.drew := ⟨h.own, Below.drew h.new⟩
theorem Ac.one (w0 w : World) (b : UInt8) (n : Int) (hb : n = (b.toNat : Int)) (h : New w0 w) : Ac w0 (.slice (some ⟨w.heap.size, 0, none⟩) 1 1) [b] (w.alloc (.cells #[.int .u8 n] 5)) := by
  subst hb
  exact ⟨own_base (own_lit w #[.int .u8 (b.toNat : Int)] 1 [b] rfl rfl (by omega)) h.size, h.alloc h.size _⟩

/-- A panic with an error. -/
def Fault (w : World) (x : Int) (e : Ending) (w' : World) : Prop := e = .panicked [{ v := .iface 28 (.int .i64 x), recovered := false }] ∧ New w w'

set_option maxRecDepth 100000 in
theorem must_ok (k : Int) (A : Option Addr) (n c : Nat) (w : World) (h0 : 0 ≤ k) (h1 : k ≤ 255) (hn : n ≤ 262144) : Calls Try.prog 18 #[.agg #[.int .i64 k, .slice A n c]] w fun e w' => e = .returned (.tuple #[]) ∧ New w w' := by
  have d0 : decide (k < 0) = false := by simp; omega
  have d1 : decide (255 < k) = false := by simp; omega
  have d2 : ¬ (262144 : Int) < (n : Int) := by omega
  go_enter Try.func18, Try.ntmps18
  go_wp2
  go_end0
  exact ⟨rfl, alloc_new _ _⟩
set_option maxRecDepth 100000 in
theorem must_arg (k : Int) (A : Option Addr) (n c : Nat) (w : World) (h : k < 0 ∨ 255 < k) : Calls Try.prog 18 #[.agg #[.int .i64 k, .slice A n c]] w (Fault w 2) := by
  by_cases h0 : k < 0
  · have d0 : decide (k < 0) = true := by simpa using h0
    clear h
    go_enter Try.func18, Try.ntmps18
    go_wp2
    exact ⟨rfl, rfl, alloc_new _ _⟩
  · have d0 : decide (k < 0) = false := by simpa using h0
    have h1 : 255 < k := by omega
    have d1 : decide (255 < k) = true := by simpa using h1
    clear h
    go_enter Try.func18, Try.ntmps18
    go_wp2
    exact ⟨rfl, rfl, alloc_new _ _⟩
set_option maxRecDepth 100000 in
theorem must_long (k : Int) (A : Option Addr) (n c : Nat) (w : World) (h0 : 0 ≤ k) (h1 : k ≤ 255) (hn : 262144 < n) : Calls Try.prog 18 #[.agg #[.int .i64 k, .slice A n c]] w (Fault w 3) := by
  have d0 : decide (k < 0) = false := by simp; omega
  have d1 : decide (255 < k) = false := by simp; omega
  have d2 : (262144 : Int) < (n : Int) := by omega
  go_enter Try.func18, Try.ntmps18
  go_wp2
  exact ⟨rfl, rfl, alloc_new _ _⟩

theorem wpList_ac {ops : Array Oper} {rest : List Oper} {o : Oper} {a : Act} {Q : Exit → Act → World → Prop} {w : World} (hgd : o.guard = none) (s x : Operand)
    (ho : o.op = .call { callee := .builtin .append, args := #[s, x], argTypes := #[24, 24] })
    {w0 : World} {v : Value} {z l : List UInt8} {A : Option Addr} {c : Nat} (h : Ac w0 v z w) (hs : a.eval s = v) (hx : a.eval x = .slice A l.length c) (hr : Reads w w.heap.size 1 A l.length (vb l)) (hb : z.length + l.length ≤ 1099511627776)
    (hK : ∀ v' w', Ac w0 v' (z ++ l) w' → wpList Try.prog ops Q rest (a.put o.dst v') w') : wpList Try.prog ops Q (o :: rest) a w := by
  obtain ⟨i0, hi, hz0, hz1, hz2⟩ := info_parts byte_info
  refine wpList_append_any w hgd s x 24 ho w0.heap.size 5 i0 _ 1 1 Try.underlying24 hi hz0 hz1 hz2 rfl (by omega) v _ _ hs h.own _ A l.length c (vb l) hx hr (vb_one _) (by unfold maxLen; omega) (by omega) h.new.size ?_
  intro v' w' hown hg _
  refine hK v' w' ⟨?_, h.new.grown hg h.new.size (fun k hk => (h.own.lt k hk).1)⟩
  rw [vb_append, List.length_append]
  exact hown

set_option maxRecDepth 100000 in
set_option maxHeartbeats 1000000 in
theorem head_any (f : Fr) (A : Option Addr) (n c : Nat) (w : World) (hn : n = f.2.length) (hl : f.2.length ≤ 262144) (hA : Reads w w.heap.size 1 A n (vb f.2)) :
    Calls Try.prog 19 #[.agg #[.int .i64 (f.1.toNat : Int), .slice A n c]] w (Got w (head9 f)) := by
  have hk := f.1.toNat_lt
  have hn0 := alloc_new w (.cells #[.int .i64 (f.1.toNat : Int), .slice A n c] 31)
  have HB := Lib.hid (Blk.new w 31 #[.int .i64 (f.1.toNat : Int), .slice A n c])
  have HA := Lib.hid (hA.new hn0)
  have HN := Lib.hid hn
  have H5 : Hid (head5 f = [f.1] ++ be4 n) := Lib.hid (by rw [hn]; rfl)
  have hnl : n ≤ 262144 := by omega
  have hn32 : n < 4294967296 := by omega
  have hBO : ∀ W, Calls Try.prog 30 #[.int .u32 n] W (Got W (be4 n)) := fun W => bytesOf_any n W hn32
  have hB4 : (be4 n).length = 4 := rfl
  generalize be4 n = Bs at H5 hBO hB4
  have HBO := Lib.hid hBO
  have HB4 := Lib.hid hB4
  clear hBO hB4
  obtain ⟨kn, hkn⟩ : ∃ kn, f.1.toNat = kn := ⟨_, rfl⟩
  have HKN := Lib.hid hkn
  rw [hkn] at hk hn0 HB HA ⊢
  clear hkn hA hn hl
  have hw8 : IntKind.u8.wrap (kn : Int) = (kn : Int) := IntWalk.u8_in _ (by omega)
  have hw32 : IntKind.u32.wrap (n : Int) = (n : Int) := IntWalk.u32_in _ (by omega)
  go_enter Try.func19, Try.ntmps19
  go_wp2
  have hb0 := HB.out
  have ha0 := HA.out
  clear HB HA
  generalize (w.alloc (.cells #[.int .i64 (kn : Int), .slice A n c] 31)) = W0 at *
  have HB := Lib.hid hb0
  have HA := Lib.hid ha0
  have HN0 := Lib.hid hn0
  clear hb0 ha0 hn0
  go_cut [3] (fun s3 wx => ∃ A3 c3, s3 = .slice A3 5 c3 ∧ Ac W0 (.slice A3 5 c3) ([f.1] ++ Bs) wx ∧ Reads wx wx.heap.size 1 A3 5 (vb ([f.1] ++ Bs)))
  case first =>
    obtain ⟨x0, x1, -, -⟩ := fzf HB.out
    have hM3 : Ac W0 (.slice (some ⟨W0.heap.size, 0, none⟩) 1 1) [f.1] (W0.alloc (.cells #[.int .u8 (kn : Int)] 5)).drew := (Ac.one W0 W0 f.1 (kn : Int) (by rw [HKN.out]) (new_refl _)).drew
    have HC1 := Lib.hid (Ac.call hM3 (HBO.out (W0.alloc (.cells #[.int .u8 (kn : Int)] 5)).drew))
    have HC2 : Hid (Calls Try.prog 30 #[.int .u32 n] W0.drew (fun e w' => ∃ A c, e = .returned (.slice A Bs.length c) ∧ New W0 w' ∧ Ac W0 (.slice (some ⟨w'.heap.size, 0, none⟩) 1 1) [f.1] (w'.alloc (.cells #[.int .u8 (kn : Int)] 5)) ∧ Reads (w'.alloc (.cells #[.int .u8 (kn : Int)] 5)) (w'.alloc (.cells #[.int .u8 (kn : Int)] 5)).heap.size 1 A Bs.length (vb Bs))) :=
      Lib.hid ((HBO.out W0.drew).mono fun e w' k => by
        obtain ⟨A, c, rfl, ho, hn⟩ := k
        have hN : New W0 w' := New.then (Below.drew (new_refl _)) hn
        exact ⟨A, c, rfl, hN, Ac.one W0 w' f.1 (kn : Int) (by rw [HKN.out]) hN, (own_typed ho).2.1.new (alloc_new w' _)⟩)
    clear hM3
    have HLB : Hid ([f.1].length + Bs.length ≤ 1099511627776) := Lib.hid (by rw [HB4.out]; simp)
    go_region_held3 (fun w' => w'.cell? ⟨w.heap.size, 0, none⟩ = some (.int .i64 (kn : Int)) ∧ w'.cell? ⟨w.heap.size, 1, none⟩ = some (.slice A n c))
      (go_keep)
      (first
        | (go_at_call 30; (with_reducible refine HC1.out.mono ?_); rintro e w4 ⟨A4, c4, rfl, hM4, hr4⟩; obtain ⟨s0, s1, -, -⟩ := fzf (HB.out.below hM4.new HB.out.lt))
        | (go_at_call 30; (with_reducible refine HC2.out.mono ?_); rintro e w4 ⟨A4, c4, rfl, hN4, hM4, hr4⟩; obtain ⟨s0, s1, -, -⟩ := fzf (HB.out.below hN4 HB.out.lt))
        | (refine step_ac (by rfl) (.tmp 7) (.tmp 12) (by rfl) hM4 (by rfl) (by rfl) hr4 HLB.out ?_; intro v5 w5 hM5; obtain ⟨s0, s1, -, -⟩ := fzf (HB.out.below hM5.new HB.out.lt)))
    all_goals go_wp2_with fail
    all_goals go_meet
    all_goals
      obtain ⟨A9, c9, e9, hr9⟩ := reads_ac hM5
      have h5 : ([f.1] ++ Bs).length = 5 := by rw [List.length_append, HB4.out]; rfl
      rw [h5] at e9 hr9
      subst e9
      exact ⟨A9, c9, rfl, hM5, hr9⟩
  case rest =>
    obtain ⟨A3, c3, rfl, hM, hr3⟩ := hcut
    obtain ⟨W1, rfl⟩ : ∃ W1 : World, W1 = wc := ⟨_, rfl⟩
    obtain ⟨s0, s1, -, -⟩ := fzf (HB.out.below hM.new HB.out.lt)
    have hAl := alloc_new W1 (.cells #[.slice A3 5 c3, .slice A n c] 24)
    have HS := Lib.hid (sumOf_any (some ⟨W1.heap.size, 0, none⟩) 2 2 [.slice A3 5 c3, .slice A n c] [[f.1] ++ Bs, f.2] (W1.alloc (.cells #[.slice A3 5 c3, .slice A n c] 24)) rfl (Parts.cons (by rw [List.length_append, HB4.out]; rfl) (hr3.new hAl) (Parts.cons HN.out ((HA.out.new hM.new).new hAl) (Parts.nil _))) (reads_blk (Blk.new W1 _ _)) (by simp) (fun k hk => by
      have : k = 0 ∨ k = 1 := by simp at hk; omega
      rcases this with rfl | rfl
      · simp only [List.getElem_cons_zero, List.length_append, List.length_cons, List.length_nil]; have := HB4.out; omega
      · simp only [List.getElem_cons_succ, List.getElem_cons_zero]; have := HN.out; omega))
    have hx : crc [[f.1] ++ Bs, f.2].flatten = crc (head5 f ++ f.2) := by rw [H5.out]; simp
    rw [hx] at HS
    have H9 : Hid (head9 f = ([f.1] ++ Bs) ++ be4 (crc (head5 f ++ f.2))) := Lib.hid (by unfold head9; rw [← H5.out])
    have hxl := crc_lt (head5 f ++ f.2)
    generalize crc (head5 f ++ f.2) = x at HS H9 hxl
    have hBO2 : ∀ W, Calls Try.prog 30 #[.int .u32 x] W (Got W (be4 x)) := fun W => bytesOf_any x W hxl
    have hB24 : (be4 x).length = 4 := rfl
    generalize be4 x = B2 at H9 hBO2 hB24
    have HBO2 := Lib.hid hBO2
    have HB24 := Lib.hid hB24
    have hMa := hM.keep hAl
    have HM := Lib.hid hMa
    clear hBO2 hB24 hx hAl hMa hM hr3
    go_wp2_with (first
      | (go_at_call 31; (refine HS.out.mono ?_); rintro e w2 ⟨rfl, rfl⟩)
      | (go_at_call 30; (refine (Ac.call HM.out (HBO2.out _)).mono ?_); rintro e w3 ⟨A4, c4, rfl, hM4, hr4⟩)
      | (at_builtin; refine wpList_ac rfl (.tmp 14) (.tmp 20) rfl hM4 rfl rfl hr4 (by rw [List.length_append, HB4.out, HB24.out]; simp) ?_; intro v5 w5 hM5))
    go_ret
    rw [H9.out]
    exact Got.mk (own_base hM5.own HN0.out.size) (New.then HN0.out hM5.new)
end Go.Proofs.Ytlbbhheaginddaa.fr
