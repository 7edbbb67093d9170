/-
  The document's answer for shape: which places are come to.
-/
import Derived.Test.YtlchimbaclenaaaShG
import Derived.Test.YtlchimbaclenaaaInsZ
import Derived.Test.YtlchimbaclenaaaInsO
namespace Go.Proofs.Ytlchimbaclenaaa.sh
open Go.RowKit Go.Proofs.Ytlchimbaclenaaa.mem Go.Proofs.Ytlchimbaclenaaa.kit Go.Proofs.Ytlchimbaclenaaa.ins
set_option linter.unusedVariables false

/-- How many of the first n are not. -/
def cnt (n : Nat) (f : Nat → Bool) : Nat := ((List.range n).filter fun j => !f j).length
theorem cnt_alike {n : Nat} {f h : Nat → Bool} (e : ∀ j, j < n → f j = h j) : cnt n f = cnt n h := by
  unfold cnt
  congr 1
  apply List.filter_congr
  intro j hj
  rw [e j (List.mem_range.1 hj)]
theorem cnt_succ (n : Nat) (f : Nat → Bool) : cnt (n + 1) f = cnt n f + if f n then 0 else 1 := by
  unfold cnt
  rw [List.range_succ, List.filter_append, List.length_append]
  cases h : f n <;> simp [h]
/-- One more marked. -/
def setT (f : Nat → Bool) (q : Nat) : Nat → Bool := fun j => if j = q then true else f j
theorem setT_eq (f : Nat → Bool) (q : Nat) : setT f q q = true := by simp [setT]
theorem setT_ne {f : Nat → Bool} {q j : Nat} (h : j ≠ q) : setT f q j = f j := by simp [setT, h]
theorem setT_up {f : Nat → Bool} {q j : Nat} (h : f j = true) : setT f q j = true := by unfold setT; split <;> simp [h]
theorem cnt_set (f : Nat → Bool) (q : Nat) (hq : f q = false) : ∀ n, cnt n (setT f q) + (if q < n then 1 else 0) = cnt n f
  | 0 => by simp [cnt]
  | n + 1 => by
    have ih := cnt_set f q hq n
    rw [cnt_succ, cnt_succ]
    by_cases e : n = q
    · subst e
      rw [if_neg (Nat.lt_irrefl _)] at ih
      rw [setT_eq, hq, if_pos (Nat.lt_succ_self _)]
      simp
      omega
    · have hi : (q < n + 1) ↔ (q < n) := by omega
      rw [setT_ne e]
      simp only [hi]
      omega
/-- What a world's row says. -/
def fW (g : Nat) (w : World) (j : Nat) : Bool := match w.cell? ⟨g, j, none⟩ with
  | some (.bool b) => b
  | _ => false
theorem fW_bo {w : World} {g n : Nat} {f : Nat → Bool} (h : Bo w g n f) {j : Nat} (hj : j < n) : fW g w j = f j := by
  unfold fW
  rw [h.cell hj]
theorem cnt_bo {w : World} {g n : Nat} {f : Nat → Bool} (h : Bo w g n f) : cnt n (fW g w) = cnt n f := cnt_alike fun j hj => fW_bo h hj

/-- What is never come to is not marked; the first place is. -/
structure Ok (l : List In) (n : Nat) (f : Nat → Bool) : Prop where
  f0 : f 0 = true
  no : ∀ d, d < n → cmb l d d = false → f d = false
def Closed (l : List In) (f : Nat → Bool) (k : Nat) : Prop := f k = true → ∀ j : Nat, (j : Int) ∈ nx l (k : Int) → f j = true

theorem Ok.set {l : List In} {n : Nat} {f : Nat → Bool} (h : Ok l n f) {k q : Nat} (hkq : k < q) (hm : (q : Int) ∈ nx l (k : Int)) : Ok l n (setT f q) :=
  ⟨setT_up h.f0, fun d hd hc => by
    by_cases e : d = q
    · subst e
      have : cmb l d d = true := cmb_iff.2 (.inr ⟨k, hkq, hm⟩)
      rw [this] at hc; cases hc
    · rw [setT_ne e]; exact h.no d hd hc⟩
theorem Ok.begin (l : List In) (n : Nat) : Ok l n (fun j => decide (j = 0)) :=
  ⟨rfl, fun d hd hc => by
    by_cases e : d = 0
    · subst e; simp [cmb] at hc
    · simpa using e⟩
/-- As long as all ahead are come to, what is marked is what is come to. -/
theorem Ok.is {l : List In} {n : Nat} {f : Nat → Bool} (h : Ok l n f) (hc : ∀ k, k < n → Closed l f k) : ∀ k, k < n → (∀ j, j < k → cmb l j j = true) → f k = cmb l k k := by
  intro k
  induction k using Nat.strongRecOn with
  | ind k ih =>
    intro hk hall
    cases e : cmb l k k with
    | false => exact h.no k hk e
    | true =>
      rcases cmb_iff.1 e with rfl | ⟨j, hj, hm⟩
      · exact h.f0
      · have hfj := ih j hj (by omega) (fun i hi => hall i (by omega))
        rw [hall j hj] at hfj
        exact hc j (by omega) hfj k hm

/-- What come tells. -/
def ComeD (l : List In) (n : Nat) (w : World) (e : Ending) (w' : World) : Prop :=
  ∃ g f, e = .returned (.slice (some ⟨g, 0, none⟩) n n) ∧ Bo w' g n f ∧ Ok l n f ∧ (∀ k, k < n → Closed l f k) ∧ New w w'

set_option maxRecDepth 100000 in
set_option maxHeartbeats 8000000 in
theorem rcome_any (A : Option Addr) (n c : Nat) (l : List In) (w : World) (hn : n = l.length) (hl : n ≤ 1099511627776) (h0 : 0 < n) (hA : RI w A l) (hin : ∀ k, k < n → ∀ j ∈ nx l (k : Int), (k : Int) < j ∧ j < (n : Int)) :
    Calls Try.prog 23 #[.slice A n c] w (ComeD l n w) := by
  have hmk := make_bools n hl
  have t0 : (0 : Int) < (n : Int) := by omega
  have hz := zrow_at h0
  have HN := Lib.hid hn
  have HA := Lib.hid hA
  have HIN := Lib.hid hin
  obtain ⟨Z, hZ⟩ : ∃ Z, (zrow (.bool false) n).setIfInBounds 0 (.bool true) = Z := ⟨_, rfl⟩
  have hZs : Z.size = n := by rw [← hZ, Array.size_setIfInBounds, zrow_size]
  have hZc : ∀ j, j < n → Z[j]? = some (.bool (decide (j = 0))) := fun j hj => by
    rw [← hZ]
    by_cases e : j = 0
    · subst e
      rw [Array.getElem?_setIfInBounds_self_of_lt (by rw [zrow_size]; exact hj)]
      rfl
    · rw [Array.getElem?_setIfInBounds_ne (fun h => e h.symm), zrow_at hj]
      simp [e]
  have HBO : Hid (Bo (w.alloc (.cells Z 4)) w.heap.size n (fun j => decide (j = 0))) := Lib.hid ⟨Z, Blk.new w _ _, hZs, hZc⟩
  have HZ := Lib.hid hZ
  clear hn hA hin hZ hZs hZc
  go_enter Try.func23, Try.ntmps23
  go_wp2
  rw [HZ.out]
  go_loopw [4] (fun gr wr => ∃ (f : Nat → Bool) (b : Bool), gr = .bool b ∧ Bo wr w.heap.size n f ∧ Ok l n f ∧ (b = false → ∀ k, k < n → Closed l f k) ∧ New w wr) (fun gr wr => 2 * cnt n (fW w.heap.size wr) + (match gr with | .bool true => 1 | _ => 0))
  case atStart => exact ⟨_, true, rfl, HBO.out, Ok.begin l n, (fun h => by cases h), (new_refl w).alloc (Nat.le_refl _) _⟩
  case round =>
    obtain ⟨fs, b, rfl, hbo, hok, hcl, hnw⟩ := hrel
    have HBS := Lib.hid hbo
    have HOS := Lib.hid hok
    have HCS := Lib.hid hcl
    have HNS := Lib.hid hnw
    clear hbo hok hcl hnw
    obtain ⟨wo, rfl⟩ : ∃ wo : World, wo = wr := ⟨_, rfl⟩
    rcases b with _ | _
    · go_wp2
      go_ret
      exact ⟨_, _, rfl, HBS.out, HOS.out, HCS.out (by first | rfl | trivial), HNS.out⟩
    · go_wp2
      go_loopw [4, 5] (fun gr i wr => ∃ (f : Nat → Bool) (b : Bool) (k : Nat), k ≤ n ∧ gr = .bool b ∧ i = .int .i64 k ∧ Bo wr w.heap.size n f ∧ Ok l n f ∧ (∀ j, fs j = true → f j = true) ∧ (b = false → f = fs ∧ ∀ k', k' < k → Closed l f k') ∧ (b = true → cnt n f < cnt n fs) ∧ New w wr) (fun _ i _ => n - (intOf i).toNat)
      case atStart => exact ⟨fs, false, 0, Nat.zero_le _, rfl, rfl, HBS.out, HOS.out, fun _ h => h, (fun _ => ⟨rfl, fun k' h => by omega⟩), (fun h => by cases h), HNS.out⟩
      case round =>
        obtain ⟨f, b, k, hk, rfl, rfl, hbo, hok, hup, hb0, hb1, hnw⟩ := hrel
        have HBK := Lib.hid hbo
        have HOK := Lib.hid hok
        have HUP := Lib.hid hup
        have HB0 := Lib.hid hb0
        have HB1 := Lib.hid hb1
        have HNK := Lib.hid hnw
        clear hbo hok hup hb0 hb1 hnw
        by_cases hlt : k < n
        · have t1 : (k : Int) < (n : Int) := by omega
          have d1 : decide ((k : Int) < (n : Int)) = true := decide_eq_true t1
          have c1 := HBK.out.cell hlt
          rcases hfk : f k with _ | _
          · rw [hfk] at c1
            have HFK := Lib.hid hfk
            clear hfk
            go_wp2
            go_roundw
            case rel => exact ⟨f, b, k + 1, by omega, rfl, by go_num, HBK.out, HOK.out, HUP.out, (fun h => ⟨(HB0.out h).1, fun k' hk' => by by_cases e : k' = k; (· intro hk2; rw [e, HFK.out] at hk2; cases hk2); exact (HB0.out h).2 k' (by omega)⟩), HB1.out, HNK.out⟩
            case measure => simp [intOf]; omega
          · rw [hfk] at c1
            have HFK := Lib.hid hfk
            obtain ⟨r, hr⟩ : ∃ r, nx l (k : Int) = r := ⟨_, rfl⟩
            have HNX : Hid (∀ W, RI W A l → Calls Try.prog 39 #[.slice A n c, .int .i64 (k : Int)] W (NextD W r)) := Lib.hid (fun W hW => hr ▸ rnext_any A n c l k W HN.out hl hW)
            have HR := Lib.hid hr
            have HRI : Hid (RI wr A l) := Lib.hid (HA.out.new HNK.out)
            clear hfk hr
            obtain ⟨wo2, rfl⟩ : ∃ wo2 : World, wo2 = wr := ⟨_, rfl⟩
            go_wp2_with (go_at_call 39; refine (HNX.out _ HRI.out).mono ?_; rintro e w2 ⟨A2, c2, rfl, hr2, hn2⟩)
            have HR2 := Lib.hid hr2
            have HN2 := Lib.hid hn2
            have hrl : r.length ≤ 2 := by rw [← HR.out]; exact nx_len l k
            clear hr2 hn2
            go_loopw [4, 7] (fun gr i wr => ∃ (f2 : Nat → Bool) (b2 : Bool) (q : Nat), q ≤ r.length ∧ gr = .bool b2 ∧ i = .int .i64 q ∧ Bo wr w.heap.size n f2 ∧ Ok l n f2 ∧ (∀ j, f j = true → f2 j = true) ∧ (b2 = false → b = false ∧ f2 = f ∧ ∀ j : Nat, (j : Int) ∈ r.take q → f j = true) ∧ (b2 = true → cnt n f2 < cnt n fs) ∧ Chg w.heap.size w2 wr) (fun _ i _ => r.length - (intOf i).toNat)
            case atStart => exact ⟨f, b, 0, Nat.zero_le _, rfl, rfl, HBK.out.new HN2.out, HOK.out, fun _ h => h, (fun h => ⟨h, rfl, fun j hj => by simp at hj⟩), HB1.out, Ch.refl _ _⟩
            case round =>
              obtain ⟨f2, b2, q, hq, rfl, rfl, hbo, hok, hup, hb0, hb1, hch⟩ := hrel
              have HBQ := Lib.hid hbo
              have HOQ := Lib.hid hok
              have HUQ := Lib.hid hup
              have HB0Q := Lib.hid hb0
              have HB1Q := Lib.hid hb1
              have HCQ := Lib.hid hch
              clear hbo hok hup hb0 hb1 hch
              by_cases hql : q < r.length
              · have hmem : r[q] ∈ nx l (k : Int) := by rw [HR.out]; exact List.getElem_mem hql
                have hvin := HIN.out k hlt _ hmem
                obtain ⟨v, hv⟩ : ∃ v : Nat, r[q] = (v : Int) := ⟨r[q].toNat, by omega⟩
                have hvn : v < n := by omega
                have hkv : k < v := by omega
                rw [hv] at hmem
                obtain ⟨ad, u, rfl, ha, hx, hc⟩ := HR2.out.at_ hql
                rw [vn_get r q hql, hv] at hx
                injection hx with hx
                subst hx
                have hne := (HBK.out.new HN2.out).ne_int hc
                have h1 := HCQ.out.cellOf hc hne
                have h3 := HBQ.out.cell hvn
                have h4 := HBQ.out.frozen v
                have tq : (q : Int) < (r.length : Int) := by omega
                have dq : decide ((q : Int) < (r.length : Int)) = true := decide_eq_true tq
                have tv : (v : Int) < (n : Int) := by omega
                have HV := Lib.hid hv
                have HM := Lib.hid hmem
                have htk : ∀ j : Nat, (j : Int) ∈ r.take (q + 1) → (j : Int) ∈ r.take q ∨ j = v := fun j hj => by
                  rw [List.take_succ_eq_append_getElem hql, hv, List.mem_append, List.mem_singleton, Int.natCast_inj] at hj
                  exact hj
                have HTK := Lib.hid htk
                clear hne hc ha hmem hv hvin htk
                rcases hfv : f2 v with _ | _
                · rw [hfv] at h3
                  have HFV := Lib.hid hfv
                  clear hfv
                  go_wp2
                  go_roundw
                  case rel =>
                    refine ⟨setT f2 v, true, q + 1, by omega, rfl, by go_num, (HBQ.out.set v true).alike (fun j hj => rfl), HOQ.out.set hkv HM.out, fun j hj => setT_up (HUQ.out j hj), (fun h => by cases h), fun _ => ?_, HCQ.out.setCell (fun _ => rfl) _⟩
                    have hc1 := cnt_set f2 v HFV.out n
                    rw [if_pos hvn] at hc1
                    cases b2 with
                    | true => have := HB1Q.out rfl; omega
                    | false =>
                      obtain ⟨e1, e2, -⟩ := HB0Q.out rfl
                      have e3 := (HB0.out e1).1
                      rw [e2, e3] at hc1
                      rw [e2, e3]
                      omega
                  case measure => simp [intOf]; omega
                · rw [hfv] at h3
                  have HFV := Lib.hid hfv
                  clear hfv
                  go_wp2
                  go_roundw
                  case rel =>
                    refine ⟨f2, b2, q + 1, by omega, rfl, by go_num, HBQ.out, HOQ.out, HUQ.out, fun h => ?_, HB1Q.out, HCQ.out⟩
                    obtain ⟨e1, e2, e3⟩ := HB0Q.out h
                    refine ⟨e1, e2, fun j hj => ?_⟩
                    rcases HTK.out j hj with hj | rfl
                    · exact e3 j hj
                    · rw [← e2]; exact HFV.out
                  case measure => simp [intOf]; omega
              · obtain rfl : q = r.length := by omega
                have tq : ¬ (r.length : Int) < (r.length : Int) := by omega
                go_wp2
                go_roundw
                case rel =>
                  refine ⟨f2, b2, k + 1, by omega, rfl, by go_num, HBQ.out, HOQ.out, fun j hj => HUQ.out j (HUP.out j hj), fun h => ?_, HB1Q.out, new_chg (HNK.out.then HN2.out) HCQ.out (Nat.le_refl _)⟩
                  obtain ⟨e1, e2, e3⟩ := HB0Q.out h
                  obtain ⟨e4, e5⟩ := HB0.out e1
                  refine ⟨e2.trans e4, fun k' hk' => ?_⟩
                  rw [e2]
                  by_cases e : k' = k
                  · subst e
                    intro _ j hj
                    rw [HR.out] at hj
                    exact e3 j (by rw [List.take_length]; exact hj)
                  · exact e5 k' (by omega)
                case measure => simp [intOf]; omega
        · obtain rfl : k = n := by omega
          have t1 : ¬ (k : Int) < (k : Int) := by omega
          go_wp2
          go_roundw
          case rel =>
            exact ⟨f, b, rfl, HBK.out, HOK.out, fun h => by rw [(HB0.out h).1]; rw [← (HB0.out h).1]; exact (HB0.out h).2, HNK.out⟩
          case measure =>
            rw [cnt_bo HBK.out, cnt_bo HBS.out]
            rcases b with _ | _
            · have := (HB0.out (by first | rfl | trivial)).1
              rw [this]
              simp
            · have := HB1.out (by first | rfl | trivial)
              simp
              omega
end Go.Proofs.Ytlchimbaclenaaa.sh
