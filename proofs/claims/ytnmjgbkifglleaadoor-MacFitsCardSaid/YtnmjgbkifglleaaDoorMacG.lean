/-
  Rows that grow by noughts; an append that is guarded; a bit that is turned.
-/
import Derived.Test.YtnmjgbkifglleaaDoorMacF
namespace Go.Proofs.YtnmjgbkifglleaaDoor.sha
open Go.RowKit Go.Proofs.YtnmjgbkifglleaaDoor.mem Go.Proofs.YtnmjgbkifglleaaDoor.kit Go.Proofs.YtnmjgbkifglleaaDoor.wire
set_option linter.unusedVariables false
theorem run_append_room_zeros {P : Program} (w : World) (t tn ty e : TypeId) (i : TypeInfo) (z : Value) (kq kn : IntKind) (ht : P.underlying t = some (.slice e)) (htn : P.underlying tn = some (.int kn)) (hi : P.info? e = some i) (hz : i.zero = some z) (hs1 : i.size = 1) (hby : i.bytes = 1)
    (g sLen sCap : Nat) (cur : Array Value) (hg : w.heap[g]? = some (.cells cur e (0, 0))) (k : Nat) (h0 : 0 < k) (hk : k ≤ 1000000) (hroom : sLen + k ≤ sCap) (hfit : sLen + k ≤ cur.size) (news : List Value) (hnews : (Builtin.zeroCells z.cells k).toList = news) (hl : news.length = k) (h1 : ∀ u ∈ news, u.oneCell' = true) :
    (Builtin.append_ #[t, tn] ty #[.slice (some ⟨g, 0, none⟩) sLen sCap, .int kq k]).run P w = .ok (.slice (some ⟨g, 0, none⟩) (sLen + k) sCap) (w.setRow g (cur.toList.take sLen ++ news ++ cur.toList.drop (sLen + k)).toArray) := by
  have hst := run_storeCells_at P g sLen e news 0 cur w hg (by rw [hl]; simpa using hfit) h1
  simp only [Nat.add_zero, hl] at hst
  have hk0 : k ≠ 0 := by omega
  have hw : IntKind.i64.wrap (k : Int) = k := by rw [IntKind.wrap_i64]; omega
  have hneg : ¬ ((k : Int) < 0) := by omega
  have h48i : ¬ (281474976710656 < (k : Int)) := by omega
  have hst2 : (storeCells ((⟨g, 0, none⟩ : Addr).add sLen) (Builtin.zeroCells z.cells k).toList).run P w = .ok () (w.setRow g (cur.toList.take sLen ++ news ++ cur.toList.drop (sLen + k)).toArray) := by
    rw [hnews, Addr.add_lit, Nat.zero_add]
    exact hst
  rw [Addr.add_lit, Nat.zero_add] at hst2
  simp [Builtin.append_, run_underlying ht, run_underlying htn, sizeOf, typeInfo, zeroValue, hi, hz, hs1, hby, asInt, asIntOf, hw, hneg, h48i, hk0, hroom, Addr.add_lit, hst2]
theorem run_append_no_zeros {P : Program} (w : World) (t tn ty e : TypeId) (i : TypeInfo) (kq kn : IntKind) (ht : P.underlying t = some (.slice e)) (htn : P.underlying tn = some (.int kn)) (hi : P.info? e = some i)
    (B : Option Addr) (sLen sCap : Nat) (hc : sLen ≤ sCap) :
    (Builtin.append_ #[t, tn] ty #[.slice B sLen sCap, .int kq 0]).run P w = .ok (.slice B sLen sCap) w := by
  have hw : IntKind.i64.wrap 0 = 0 := by decide
  cases B with
  | none => simp [Builtin.append_, run_underlying ht, run_underlying htn, sizeOf, typeInfo, hi, asInt, asIntOf, hw, hc]
  | some a => simp [Builtin.append_, run_underlying ht, run_underlying htn, sizeOf, typeInfo, hi, asInt, asIntOf, hw, hc, storeCells]
theorem zc_vb (k : Nat) : (Builtin.zeroCells (Value.int .u8 0).cells k).toList = vb (List.replicate k 0) := by
  unfold Builtin.zeroCells vb
  simp [Value.cells, Nat.mod_one]
  apply List.ext_getElem
  · simp
  · intro i h1 h2
    simp
/-- A row of the call's own, so many noughts longer. -/
theorem zeros_ab (w0 W : World) (v : Value) (z : List UInt8) (k : Nat) (x : Int) (hx : x = (k : Int)) (h : Ab w0 v z W) (hk : z.length + k ≤ 1000000) (ty : TypeId) :
    ∃ v' W', (Builtin.append_ #[22, 3] ty #[v, .int .i64 x]).run Tryd.prog W = .ok v' W' ∧ Ab w0 v' (z ++ List.replicate k 0) W' := by
  subst hx
  obtain ⟨i0, hi, hz0, hz1, hz2⟩ := info_parts byte_inf
  have hown := h.own
  obtain ⟨A, c, rfl, h1, h2, hr⟩ := own_len hown
  rcases Nat.eq_zero_or_pos k with rfl | hpos
  · exact ⟨_, W, run_append_no_zeros W 22 3 ty 5 i0 .i64 .i64 Tryd.underlying22 Tryd.underlying3 hi A z.length c h1, by simpa using h⟩
  · by_cases hroom : z.length + k ≤ c
    · rcases hown.2 with ⟨e, e0⟩ | ⟨g, cap, cur, e, hB, hb, hnc, hcm, hcs, htk⟩
      · simp only [Value.slice.injEq] at e
        omega
      · simp only [Value.slice.injEq] at e
        obtain ⟨rfl, -, rfl⟩ := e
        have hr2 := run_append_room_zeros (P := Tryd.prog) W 22 3 ty 5 i0 _ .i64 .i64 Tryd.underlying22 Tryd.underlying3 hi hz0 hz1 hz2 g z.length c cur hb k hpos (by omega) hroom (by omega) _ (zc_vb k) (by rw [vb_length, List.length_replicate]) (vb_one _)
        refine ⟨_, _, hr2, ⟨?_, below_setRow h.new hB _⟩⟩
        rw [Nat.mul_one] at htk hcs
        have hlz : (vb z).length = z.length := vb_length z
        rw [htk, vb_append]
        refine ⟨by simp [vb_length], .inr ⟨g, c, _, by simp, hB, setRow_heap W g cur _ _ _ hb, by simp; omega, hcm, ?_, ?_⟩⟩
        · simp [vb_length]
          omega
        · rw [Nat.mul_one]
          rw [List.take_append_of_le_length (by simp [vb_length]), List.take_of_length_le (by simp [vb_length])]
    · have hold : (Builtin.firstCells i0.size z.length (.slice A z.length c)).run Tryd.prog W.drew = .ok (vb z).toArray W.drew := by
        cases A with
        | none =>
          have : z = [] := by
            rcases hown.2 with ⟨e, e0⟩ | ⟨g, cap, cur, e, _⟩
            · exact List.eq_nil_of_length_eq_zero e0
            · simp at e
          subst this
          exact run_firstCells_none W.drew i0.size 0 0 c
        | some ad =>
          refine run_firstCells_some (P := Tryd.prog) W.drew i0.size z.length ad z.length c (vb z) (by rw [vb_length, hz1, Nat.mul_one]) (fun j u hu => ?_)
          have hj := (List.getElem?_eq_some_iff.1 hu).1
          rw [vb_length] at hj
          obtain ⟨ad', e, -, hc'⟩ := hr.2 (by omega)
          simp only [Option.some.injEq] at e
          subst e
          exact hc' j u hu
      have hg := Lib.run_append_grow_zeros W 22 3 ty 5 i0 _ .i64 .i64 Tryd.underlying22 Tryd.underlying3 hi hz0 A z.length c (vb z) hold k hpos (by omega) (by omega) (by omega)
        (by rw [hz2]; omega) (growslice_fits (by omega) (by rw [hz2]; omega))
      have hG := grownCap_ge W (z.length + k) c 5
      have hG2 := grownCap_le_maxLen W (z.length + k) c 5 (by unfold maxLen; omega)
      generalize grownCap W (z.length + k) c 5 = G at *
      refine ⟨_, _, hg, ⟨?_, (Below.drew h.new).alloc h.new.size _⟩⟩
      refine ⟨by simp [vb_length], .inr ⟨W.heap.size, G, _, by simp, h.new.size, heap_alloc_new _ _, by simp; omega, hG2, ?_, ?_⟩⟩
      · simp [size_zeroCells, Value.cells, vb_length]
        omega
      · rw [Nat.mul_one, Array.toList_append, Array.toList_append, zc_vb, vb_append]
        rw [List.take_append_of_le_length (by simp [vb_length]), List.take_of_length_le (by simp [vb_length])]
theorem wpl_ab_g {ops : Array Oper} {rest : List Oper} {o : Oper} {a : Act} {Q : Exit → Act → World → Prop} {w : World} (hw : Region.wanted o (yielded ops a.tmps) = true) (s x : Operand)
    (ho : o.op = .call { callee := .builtin .append, args := #[s, x], argTypes := #[22, 22] })
    {w0 : World} {v : Value} {z l : List UInt8} {A : Option Addr} {c : Nat} (h : Ab w0 v z w) (hs : a.eval s = v) (hx : a.eval x = .slice A l.length c) (hr : Reads w w.heap.size 1 A l.length (vb l)) (hb : z.length + l.length ≤ 1099511627776)
    (hK : ∀ v' w', Ab w0 v' (z ++ l) w' → wpList Tryd.prog ops Q rest (a.put o.dst v') w') : wpList Tryd.prog ops Q (o :: rest) a w := by
  obtain ⟨i0, hi, hz0, hz1, hz2⟩ := info_parts byte_inf
  simp only [wpList, hw, if_true]
  refine Or.inl ?_
  refine wp_append_any w s x 22 ho w0.heap.size 5 i0 _ 1 1 Tryd.underlying22 hi hz0 hz1 hz2 rfl (by omega) v _ _ hs h.own _ A l.length c (vb l) hx hr (vb_one _) (by unfold maxLen; omega) (by omega) h.new.size ?_
  intro v' w' hown hg _
  refine hK v' w' ⟨?_, h.new.grown hg h.new.size (fun k hk => (h.own.lt k hk).1)⟩
  rw [vb_append, List.length_append]
  exact hown
theorem turn_b (b : UInt8) (k : Nat) (hk : k < 8) : ∃ y : UInt8, y ≠ b ∧ bits BinOp.xor IntKind.u8 (b.toNat : Int) ((2 : Int) ^ k) = (y.toNat : Int) ∧ bits BinOp.xor IntKind.u8 (b.toNat : Int) (IntKind.u8.wrap ((2 : Int) ^ k)) = (y.toNat : Int) ∧ bits BinOp.xor IntKind.u8 (b.toNat : Int) ((2 : Int) ^ k % 256) = (y.toNat : Int) := by
  have hp : 2 ^ k < 256 := Nat.lt_of_lt_of_le (Nat.pow_lt_pow_right (by decide) hk) (by decide)
  have hp0 : 0 < 2 ^ k := Nat.pow_pos (by decide)
  obtain ⟨q, hq⟩ : ∃ q, 2 ^ k = q := ⟨_, rfl⟩
  have e : (2 : Int) ^ k = ((q : Nat) : Int) := by rw [← hq]; simp
  rw [hq] at hp hp0
  have hb := b.toNat_lt
  have hx : b.toNat ^^^ q < 256 := Nat.xor_lt_two_pow (n := 8) hb hp
  have hn : (UInt8.ofNat (b.toNat ^^^ q)).toNat = b.toNat ^^^ q := by rw [UInt8.toNat_ofNat']; omega
  refine ⟨UInt8.ofNat (b.toNat ^^^ q), ?_, ?_⟩
  · intro h
    have h2 := congrArg UInt8.toNat h
    rw [hn] at h2
    have h3 : b.toNat ^^^ (b.toNat ^^^ q) = q := by rw [← Nat.xor_assoc, Nat.xor_self, Nat.zero_xor]
    rw [h2, Nat.xor_self] at h3
    omega
  · have hy : ((UInt8.ofNat (b.toNat ^^^ q)).toNat : Int) = ((b.toNat ^^^ q : Nat) : Int) := by rw [hn]
    have h1 : bits BinOp.xor IntKind.u8 (b.toNat : Int) (q : Int) = ((b.toNat ^^^ q : Nat) : Int) := u8_xor_nat _ _ hb hp
    rw [hy, e, IntWalk.u8_in _ ⟨by omega, by omega⟩, show (q : Int) % 256 = (q : Int) by omega]
    exact ⟨h1, h1, h1⟩
end Go.Proofs.YtnmjgbkifglleaaDoor.sha
