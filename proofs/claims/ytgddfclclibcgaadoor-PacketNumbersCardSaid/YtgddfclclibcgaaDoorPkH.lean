/-
  The document's packet: place, Get, Set; rows that the call has made.
-/
import Derived.Test.YtgddfclclibcgaaDoorPkG
namespace Go.Proofs.YtgddfclclibcgaaDoor.pk
open Go.RowKit Go.Proofs.YtgddfclclibcgaaDoor.mem Go.Proofs.YtgddfclclibcgaaDoor.kit
set_option linter.unusedVariables false
set_option linter.unusedSimpArgs false

/-- A row of bytes that the call has made. -/
structure Ab (w0 : World) (v : Value) (z : List UInt8) (w : World) : Prop where
  own : w.ownsRow w0.heap.size 5 1 v z.length (vb z)
  new : New w0 w
theorem Ab.nil (w : World) : Ab w (.slice none 0 0) [] w := ⟨World.ownsRow_nil _ _ _ _, new_refl w⟩
theorem Ab.made (w0 w : World) (h : New w0 w) : Ab w0 (.slice (some ⟨w.heap.size, 0, none⟩) 0 0) [] (w.alloc (.cells #[] 5)) :=
  ⟨World.ownsRow_made (e := 5) (base := w0.heap.size) (size := 1) w #[] 0 h.size (by unfold maxLen; omega) (by simp), h.alloc h.size _⟩
theorem wpl_ab {ops : Array Oper} {rest : List Oper} {o : Oper} {a : Act} {Q : Exit → Act → World → Prop} {w : World} (hgd : o.guard = none) (s x : Operand)
    (ho : o.op = .call { callee := .builtin .append, args := #[s, x], argTypes := #[22, 22] })
    {w0 : World} {v : Value} {z l : List UInt8} {A : Option Addr} {c : Nat} (h : Ab w0 v z w) (hs : a.eval s = v) (hx : a.eval x = .slice A l.length c) (hr : Reads w w.heap.size 1 A l.length (vb l)) (hb : z.length + l.length ≤ 1099511627776)
    (hK : ∀ v' w', Ab w0 v' (z ++ l) w' → wpList Tryd.prog ops Q rest (a.put o.dst v') w') : wpList Tryd.prog ops Q (o :: rest) a w := by
  obtain ⟨i0, hi, hz0, hz1, hz2⟩ := info_parts byte_info
  refine wpList_append_any w hgd s x 22 ho w0.heap.size 5 i0 _ 1 1 Tryd.underlying22 hi hz0 hz1 hz2 rfl (by omega) v _ _ hs h.own _ A l.length c (vb l) hx hr (vb_one _) (by unfold maxLen; omega) (by omega) h.new.size ?_
  intro v' w' hown hg _
  refine hK v' w' ⟨?_, h.new.grown hg h.new.size (fun k hk => (h.own.lt k hk).1)⟩
  rw [vb_append, List.length_append]
  exact hown
theorem Ab.bq {w0 w : World} {v : Value} {z : List UInt8} (h : Ab w0 v z w) (h0 : 0 < z.length) : ∃ g c, v = .slice (some ⟨g, 0, none⟩) z.length c ∧ z.length ≤ c ∧ c ≤ maxLen ∧ w0.heap.size ≤ g ∧ Bq w g c z := by
  obtain ⟨A, c, rfl, h1, h2, hr⟩ := own_len h.own
  rcases h.own.2 with ⟨e, e0⟩ | ⟨g, cap, cur, e, hB, hb, hnc, hcm, hcs, htake⟩
  · omega
  · simp only [Value.slice.injEq] at e
    obtain ⟨rfl, -, rfl⟩ := e
    refine ⟨g, c, rfl, h1, h2, hB, cur, hb, by simpa using hcs, h1, fun i hi => ?_⟩
    obtain ⟨ad, ea, hlt, hc⟩ := hr.2 h0
    simp only [Option.some.injEq] at ea
    subst ea
    have := hc i _ (vb_get z i hi)
    rw [Addr.add_lit, Nat.zero_add] at this
    rw [← this]
    exact (Blk.cell (cs := cur) (t := 5) hb i).symm
theorem Bq.reads {W : World} {g m : Nat} {L : List UInt8} (h : Bq W g m L) (n : Nat) (hn : n = L.length) : Reads W W.heap.size 1 (some ⟨g, 0, none⟩) n (vb L) := by
  subst hn
  refine ⟨by rw [vb_length, Nat.mul_one], fun _ => ⟨_, rfl, h.lt, fun j u hu => ?_⟩⟩
  have hj : j < L.length := by
    have := (List.getElem?_eq_some_iff.1 hu).1
    rwa [vb_length] at this
  rw [vb_get L j hj] at hu
  rw [Addr.add_lit, Nat.zero_add, h.at_ hj]
  exact hu

set_option maxRecDepth 100000 in
theorem copyb_any (A : Option Addr) (n c : Nat) (l : List UInt8) (w : World) (hn : n = l.length) (hl : n ≤ 1000000) (hA : Reads w w.heap.size 1 A n (vb l)) :
    Calls Tryd.prog 14 #[.slice A n c] w fun e w' => ∃ v, e = .returned v ∧ Ab w v l w' := by
  have HA := Lib.hid hA
  have HN := Lib.hid hn
  clear hA hn
  go_enter Tryd.func14, Tryd.ntmps14
  go_wp2_with (first
    | (at_builtin; refine wpl_ab (w0 := w) (z := []) (l := l) (by rfl) (.tmp 4) (.tmp 5) (by rfl) (Ab.nil w) (by rfl) (by rw [← HN.out]; rfl) (by rw [← HN.out]; exact HA.out) (by have := HN.out; simp; omega) ?_; intro v2 w2 hac2; have HAC := Lib.hid hac2; clear hac2)
    | fail)
  go_ret
  exact ⟨_, rfl, by simpa using HAC.out⟩

/-! ### the document's -/
set_option maxRecDepth 100000 in
theorem rplace_any (A : Option Addr) (n c : Nat) (p k : Int) (w : World) (hn : n ≤ maxLen) : Calls Tryd.prog 26 #[.slice A n c, .int .i64 p, .int .i64 k] w fun e w' => e = .returned (.int .i64 (errM n p k)) ∧ w = w' := by
  unfold maxLen at hn
  obtain ⟨x, hx⟩ : ∃ x, errM n p k = x := ⟨_, rfl⟩
  have HX := Lib.hid hx
  unfold errM at hx
  by_cases hz : isz k = true
  · rw [if_neg (by rw [hz]; decide)] at hx
    have hc := isz_cases hz
    clear hz
    by_cases h0 : p < 0
    · have d0 : decide (p < 0) = true := by simpa using h0
      rw [if_pos (Or.inl h0)] at hx
      subst hx
      rcases hc with rfl | rfl | rfl | rfl
      all_goals
        go_enter Tryd.func26, Tryd.ntmps26
        go_wp2
        go_ret
        exact ⟨by rw [HX.out]; rfl, rfl⟩
    · have d0 : decide (p < 0) = false := by simpa using h0
      by_cases h1 : (n : Int) - k < p
      · rw [if_pos (Or.inr h1)] at hx
        subst hx
        rcases hc with rfl | rfl | rfl | rfl
        all_goals
          have d1 := decide_eq_true h1
          go_enter Tryd.func26, Tryd.ntmps26
          go_wp2
          go_ret
          exact ⟨by rw [HX.out]; rfl, rfl⟩
      · rw [if_neg (by omega)] at hx
        subst hx
        rcases hc with rfl | rfl | rfl | rfl
        all_goals
          have d1 := decide_eq_false h1
          go_enter Tryd.func26, Tryd.ntmps26
          go_wp2
          go_ret
          exact ⟨by rw [HX.out]; rfl, rfl⟩
  · rw [if_pos (by simpa using hz)] at hx
    subst hx
    have h1 : ¬ k = 1 := fun e => hz (by rw [e]; decide)
    have h2 : ¬ k = 2 := fun e => hz (by rw [e]; decide)
    have h3 : ¬ k = 4 := fun e => hz (by rw [e]; decide)
    have h4 : ¬ k = 8 := fun e => hz (by rw [e]; decide)
    have b1 : (k != 1) = true := by simpa using h1
    have b2 : (k != 2) = true := by simpa using h2
    have b3 : (k != 4) = true := by simpa using h3
    have b4 : (k != 8) = true := by simpa using h4
    clear hz
    go_enter Tryd.func26, Tryd.ntmps26
    go_wp2
    go_ret
    exact ⟨by rw [HX.out]; rfl, rfl⟩

/-- A byte of what is read. -/
theorem reads_byte {w : World} {B n : Nat} {A : Option Addr} {l : List UInt8} (h : Reads w B 1 A n (vb l)) (hn : n = l.length) (h0 : 0 < n) : ∃ g o, A = some ⟨g, o, none⟩ ∧ g < B ∧ ∀ (j : Nat) (hj : j < l.length), w.cell? ⟨g, o + j, none⟩ = some (.int .u8 (l[j].toNat : Int)) := by
  obtain ⟨ad, e, hb, hcell⟩ := h.2 h0
  have h1 := hcell 0 _ (vb_get l 0 (by omega))
  obtain ⟨gb, go, gs⟩ := ad
  cases gs with
  | none => exact ⟨gb, go, e, hb, fun j hj => by have := hcell j _ (vb_get l j hj); rwa [Addr.add_lit] at this⟩
  | some s => exfalso; simp [World.cell?, Addr.add] at h1; split at h1 <;> simp_all

set_option maxRecDepth 100000 in
set_option maxHeartbeats 1000000 in
theorem rget_any (A : Option Addr) (n c : Nat) (p k : Int) (l : List UInt8) (w : World) (hn : n = l.length) (hm : n ≤ maxLen) (hR : Reads w w.heap.size 1 A n (vb l)) :
    Calls Tryd.prog 18 #[.slice A n c, .int .i64 p, .int .i64 k] w fun e w' => e = .returned (.tuple #[.int .u64 ((getN l p k : Nat) : Int), .int .i64 (errM l.length p k)]) ∧ New w w' := by
  have HP := Lib.hid (rplace_any A n c p k w hm)
  rw [← hn]
  have hgn : errM n p k ≠ 0 → getN l p k = 0 := fun h => by unfold getN; rw [← hn, if_neg h]
  obtain ⟨x, hx⟩ : ∃ x, errM n p k = x := ⟨_, rfl⟩
  rw [hx] at HP hgn ⊢
  by_cases h0 : x = 0
  · subst h0
    obtain ⟨hz, hp0, hpk⟩ := errM_0 hx
    have hkr := isz_rng hz
    obtain ⟨P, rfl⟩ : ∃ P : Nat, p = (P : Int) := ⟨p.toNat, by omega⟩
    obtain ⟨K, rfl⟩ : ∃ K : Nat, k = (K : Int) := ⟨k.toNat, by omega⟩
    have hPK : P + K ≤ n := by omega
    have hG : getN l (P : Int) (K : Int) = beN (pieceOf l P K) := by unfold getN; rw [← hn, if_pos hx]; simp
    rw [hG]
    obtain ⟨g, o, rfl, hgb, hcell⟩ := reads_byte hR hn (by omega)
    have HC := Lib.hid hcell
    have HN := Lib.hid hn
    unfold maxLen at hm
    have hK8 : K ≤ 8 := by omega
    clear hx hgn hcell hR hn hG hz hp0 hpk hkr
    go_enter Tryd.func18, Tryd.ntmps18
    go_wp2_with (go_at_call 26; (with_reducible refine HP.out.mono ?_); rintro e w1 ⟨rfl, rfl⟩)
    go_loopw [9, 10] (fun v i wr => ∃ x : Nat, x ≤ K ∧ i = .int .i64 (x : Int) ∧ v = .int .u64 ((beN ((pieceOf l P K).take x) : Nat) : Int) ∧ w = wr) (fun _ i _ => K - (intOf i).toNat)
    case atStart => exact ⟨0, Nat.zero_le _, rfl, rfl, rfl⟩
    case round =>
      obtain ⟨x, hxK, rfl, rfl, rfl⟩ := hrel
      by_cases hlt : x < K
      · have t3 : (x : Int) < (K : Int) := by omega
        obtain ⟨h1, h2, e⟩ := piece_get (l := l) (p := P) (k := K) hlt (by have := HN.out; omega)
        have hc2 := HC.out (P + x) h2
        have hb := (l[P + x]).toNat_lt
        have hbe := beN_lt ((pieceOf l P K).take x)
        rw [List.length_take, Nat.min_eq_left (by omega)] at hbe
        have hpw : 256 ^ x ≤ 72057594037927936 := Nat.le_trans (Nat.pow_le_pow_right (by decide) (show x ≤ 7 by omega)) (by decide)
        have HE : Hid (256 * beN ((pieceOf l P K).take x) + (l[P + x]).toNat = beN ((pieceOf l P K).take (x + 1))) := Lib.hid (by rw [take_snoc h1, beN_snoc, e])
        obtain ⟨y, hy⟩ : ∃ y, (l[P + x]).toNat = y := ⟨_, rfl⟩
        obtain ⟨z, hzz⟩ : ∃ z, beN ((pieceOf l P K).take x) = z := ⟨_, rfl⟩
        rw [hy, hzz] at HE
        rw [hy, ← Nat.add_assoc] at hc2
        rw [hy] at hb
        rw [hzz] at hbe
        rw [hzz]
        have hz2 : z < 72057594037927936 := by omega
        have i1 : (P : Int) + (x : Int) < (n : Int) := by omega
        have ha : o + (P + x) = o + P + x := by omega
        have i2 : ((P : Int) + (x : Int)).toNat = P + x := by omega
        have w1 : IntKind.u64.wrap (256 * (z : Int)) = 256 * (z : Int) := IntWalk.u64_in _ ⟨by omega, by omega⟩
        have w2 : IntKind.u64.wrap (256 * (z : Int) + (y : Int)) = 256 * (z : Int) + (y : Int) := IntWalk.u64_in _ ⟨by omega, by omega⟩
        clear hbe hpw hy hzz e h1 h2
        go_wp2
        go_roundw
        case rel => exact ⟨x + 1, by omega, by go_num, by rw [← HE.out]; go_num, (by first | trivial | rfl)⟩
        case measure => simp [intOf]; omega
      · obtain rfl : x = K := by omega
        have HE : Hid (beN ((pieceOf l P x).take x) = beN (pieceOf l P x)) := Lib.hid (by rw [List.take_of_length_le (by simp [pieceOf]; omega)])
        go_wp2
        go_ret2
        exact ⟨by rw [← HE.out]; rfl, new_refl _⟩
  · rw [hgn h0]
    have hb : (x != 0) = true := by simpa using h0
    clear hgn hx hn hR
    go_enter Tryd.func18, Tryd.ntmps18
    go_wp2_with (go_at_call 26; (with_reducible refine HP.out.mono ?_); rintro e w1 ⟨rfl, rfl⟩)
    go_ret2
    exact ⟨rfl, new_refl _⟩

/-- The bytes from the lowest one on are set. -/
def lowN (L : List UInt8) (p k v j : Nat) : List UInt8 := L.take (p + j) ++ (beB k v).drop j ++ L.drop (p + k)
theorem lowN_all {L : List UInt8} {p k v : Nat} : lowN L p k v k = L := by
  unfold lowN
  rw [List.drop_eq_nil_of_le (by rw [beB_length]; exact Nat.le_refl _), List.append_nil, List.take_append_drop]
theorem lowN_0 (L : List UInt8) (p k v : Nat) : lowN L p k v 0 = putN L p k v k := by simp [lowN, putN, beB]
theorem lowN_length {L : List UInt8} {p k v j : Nat} (hj : j ≤ k) (h : p + k ≤ L.length) : (lowN L p k v j).length = L.length := by
  simp [lowN, beB_length]
  omega
theorem lowN_set {L : List UInt8} {p k v j : Nat} (hj : j < k) (h : p + k ≤ L.length) : (lowN L p k v (j + 1)).set (p + j) (UInt8.ofNat (v / 256 ^ (k - 1 - j))) = lowN L p k v j := by
  unfold lowN
  have e1 : L.take (p + (j + 1)) = L.take (p + j) ++ [L[p + j]] := by rw [← Nat.add_assoc]; exact List.take_succ_eq_append_getElem (by omega)
  have hjl : j < (beB k v).length := by rw [beB_length]; exact hj
  have e2 : (beB k v).drop j = (beB k v)[j] :: (beB k v).drop (j + 1) := (List.getElem_cons_drop hjl).symm
  have e3 : (beB k v)[j] = UInt8.ofNat (v / 256 ^ (k - 1 - j)) := by simp [beB, hiB]
  have hl : (L.take (p + j)).length = p + j := by rw [List.length_take]; omega
  rw [e1, e2, e3, List.append_assoc, List.append_assoc, List.append_assoc, List.set_append_right _ _ (by rw [hl]; exact Nat.le_refl _), hl, Nat.sub_self]
  simp

def RSetD (w : World) (n : Nat) (l : List UInt8) (p k : Int) (v : Nat) (e : Ending) (w' : World) : Prop :=
  ∃ A c, e = .returned (.tuple #[.slice A n c, .int .i64 (errM n p k)]) ∧ Reads w' w'.heap.size 1 A n (vb (setN n l p k v)) ∧ New w w'
set_option maxRecDepth 100000 in
set_option maxHeartbeats 2000000 in
theorem rset_any (A : Option Addr) (n c : Nat) (p k : Int) (v : Nat) (l : List UInt8) (w : World) (hn : n = l.length) (hm : n ≤ 1000000) (hv : v < 18446744073709551616) (hR : Reads w w.heap.size 1 A n (vb l)) :
    Calls Tryd.prog 19 #[.slice A n c, .int .i64 p, .int .i64 k, .int .u64 (v : Int)] w (RSetD w n l p k v) := by
  have HP := Lib.hid (fun W => rplace_any A n c p k W (by unfold maxLen; omega))
  obtain ⟨x, hx⟩ : ∃ x, errM n p k = x := ⟨_, rfl⟩
  have HX := Lib.hid hx
  rw [hx] at HP
  have n1 := alloc_new w (.cells #[] 5)
  have HR := Lib.hid (hR.new n1)
  have HN := Lib.hid hn
  have HA := Lib.hid (Ab.made w w (new_refl w))
  clear hR n1 hn
  by_cases h0 : x = 0
  · subst h0
    obtain ⟨hz, hp0, hpk⟩ := errM_0 hx
    have hkr := isz_rng hz
    obtain ⟨P, rfl⟩ : ∃ P : Nat, p = (P : Int) := ⟨p.toNat, by omega⟩
    obtain ⟨K, rfl⟩ : ∃ K : Nat, k = (K : Int) := ⟨k.toNat, by omega⟩
    have hPK : P + K ≤ n := by omega
    have hG : Hid (setN n l (P : Int) (K : Int) v = putN l P K v K) := Lib.hid (by unfold setN; rw [if_pos hx]; simp)
    have hK1 : 1 ≤ K := by omega
    have hK8 : K ≤ 8 := by omega
    clear hx hz hp0 hpk hkr
    go_enter Tryd.func19, Tryd.ntmps19
    go_wp2_with (first
      | (at_builtin; refine wpl_ab (w0 := w) (z := []) (l := l) (by rfl) (.tmp 13) (.tmp 14) (by rfl) HA.out (by rfl) (by rw [← HN.out]; rfl) (by rw [← HN.out]; exact HR.out) (by have := HN.out; simp; omega) ?_; intro v2 w2 hac2; have HAC := Lib.hid hac2; clear hac2)
      | (go_at_call 26; (with_reducible refine (HP.out _).mono ?_); rintro e w3 ⟨rfl, rfl⟩)
      | fail)
    obtain ⟨g, c2, rfl, hc1, hc2, hg, hbq⟩ := (show Ab w v2 l w2 from by simpa using HAC.out).bq (by have := HN.out; omega)
    have HBQ := Lib.hid hbq
    have HN2 := Lib.hid HAC.out.new
    have hcl : c2 ≤ maxLen := hc2
    rw [← HN.out] at hc1 ⊢
    clear hbq HAC
    go_loopw [3, 12] (fun x i wr => ∃ j : Nat, j ≤ K ∧ i = .int .i64 ((j : Int) - 1) ∧ x = .int .u64 ((v / 256 ^ (K - j) : Nat) : Int) ∧ Bq wr g c2 (lowN l P K v j) ∧ New w wr) (fun _ i _ => (intOf i + 1).toNat)
    case atStart => exact ⟨K, Nat.le_refl _, rfl, by simp, by rw [lowN_all]; exact HBQ.out, HN2.out⟩
    case round =>
      obtain ⟨j, hjK, rfl, rfl, hb, hnw⟩ := hrel
      have HB := Lib.hid hb
      have HNW := Lib.hid hnw
      clear hb hnw HBQ
      by_cases hj : 1 ≤ j
      · obtain ⟨m, rfl⟩ : ∃ m, j = m + 1 := ⟨j - 1, by omega⟩
        have hll : P + K ≤ l.length := by have := HN.out; omega
        have hlt : P + m < (lowN l P K v (m + 1)).length := by rw [lowN_length hjK hll]; omega
        have hat := HB.out.at_ hlt
        have hz := HB.out.frozen (P + m)
        obtain ⟨ov, hov⟩ : ∃ ov, (((lowN l P K v (m + 1))[P + m]).toNat : Int) = ov := ⟨_, rfl⟩
        rw [hov] at hat
        have hb2 := HB.out.set (i := P + m) (UInt8.ofNat (v / 256 ^ (K - 1 - m)))
        rw [lowN_set (by omega) hll] at hb2
        have e1 : K - (m + 1) = K - 1 - m := by omega
        have hY : IntKind.u8.wrap ((v / 256 ^ (K - 1 - m) : Nat) : Int) = ((UInt8.ofNat (v / 256 ^ (K - 1 - m))).toNat : Int) := by
          rw [UInt8.toNat_ofNat']
          simp [IntKind.wrap, IntKind.bits, IntKind.signed]
        obtain ⟨Y, hYY⟩ : ∃ Y, ((UInt8.ofNat (v / 256 ^ (K - 1 - m))).toNat : Int) = Y := ⟨_, rfl⟩
        rw [hYY] at hb2 hY
        rw [e1]
        have hle : v / 256 ^ (K - 1 - m) ≤ v := Nat.div_le_self _ _
        have HQ : Hid (v / 256 ^ (K - 1 - m) / 256 = v / 256 ^ (K - m)) := Lib.hid (by rw [Nat.div_div_eq_div_mul, ← Nat.pow_succ]; congr 2; omega)
        obtain ⟨q, hq⟩ : ∃ q, v / 256 ^ (K - 1 - m) = q := ⟨_, rfl⟩
        rw [hq] at hY hle HQ ⊢
        have HB2 := Lib.hid hb2
        have HNW2 := Lib.hid (HNW.out.setCell (p := ⟨g, P + m, none⟩) hg (.int .u8 Y))
        have t1 : ((m + 1 : Nat) : Int) - 1 = (m : Int) := by omega
        have i1 : (P : Int) + (m : Int) < (n : Int) := by omega
        have i2 : (P : Int) + (m : Int) < (c2 : Int) := by omega
        have hq64 : (q : Int) < 18446744073709551616 := by omega
        rw [t1]
        clear hlt hov e1 hYY hle hq hb2 hll
        go_wp2
        exact ⟨⟨m, by omega, rfl, by rw [← HQ.out]; rfl, HB2.out, HNW2.out⟩, by simp [intOf]⟩
      · obtain rfl : j = 0 := by omega
        go_wp2
        go_ret2
        refine ⟨some ⟨g, 0, none⟩, c2, by rw [HX.out]; rfl, ?_, HNW.out⟩
        rw [hG.out, ← lowN_0]
        exact HB.out.reads n (by rw [lowN_length (Nat.zero_le _) (by have := HN.out; omega), ← HN.out])
  · have hb : (x != 0) = true := by simpa using h0
    have HS : Hid (setN n l p k v = l) := Lib.hid (by unfold setN; rw [hx, if_neg h0])
    clear hx
    go_enter Tryd.func19, Tryd.ntmps19
    go_wp2_with (first
      | (at_builtin; refine wpl_ab (w0 := w) (z := []) (l := l) (by rfl) (.tmp 13) (.tmp 14) (by rfl) HA.out (by rfl) (by rw [← HN.out]; rfl) (by rw [← HN.out]; exact HR.out) (by have := HN.out; simp; omega) ?_; intro v2 w2 hac2; have HAC := Lib.hid hac2; clear hac2)
      | (go_at_call 26; (with_reducible refine (HP.out _).mono ?_); rintro e w3 ⟨rfl, rfl⟩)
      | fail)
    go_ret2
    have h2 : Ab w v2 l w2 := by simpa using HAC.out
    obtain ⟨A2, c2, rfl, -, -, hr⟩ := own_len h2.own
    rw [← HN.out] at hr
    exact ⟨A2, c2, by rw [HX.out, ← HN.out]; rfl, by rw [HS.out]; exact hr, h2.new⟩
end Go.Proofs.YtgddfclclibcgaaDoor.pk
