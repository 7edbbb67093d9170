/-
  Rows of bytes that grow; the document's message.
-/
import Derived.Test.YtnmjgbkifglleaaDoorShaV
import Derived.Test.YtnmjgbkifglleaaDoorShaO
import Derived.Test.YtnmjgbkifglleaaDoorKitB
namespace Go.Proofs.YtnmjgbkifglleaaDoor.sha
open Go.RowKit Go.Proofs.YtnmjgbkifglleaaDoor.mem Go.Proofs.YtnmjgbkifglleaaDoor.kit
set_option linter.unusedVariables false
/-- A row of bytes that the call has made. -/
structure Ab (w0 : World) (v : Value) (z : List UInt8) (w : World) : Prop where
  own : w.ownsRow w0.heap.size 5 1 v z.length (vb z)
  new : New w0 w
theorem Ab.keep {w0 w w' : World} {v : Value} {z : List UInt8} (h : Ab w0 v z w) (hn : New w w') : Ab w0 v z w' := ⟨own_new h.own hn, New.then h.new hn⟩
theorem Ab.made (w0 w : World) (h : New w0 w) : Ab w0 (.slice (some ⟨w.heap.size, 0, none⟩) 0 0) [] (w.alloc (.cells #[] 5)) :=
  ⟨World.ownsRow_made (e := 5) (base := w0.heap.size) (size := 1) w #[] 0 h.size (by unfold maxLen; omega) (by simp), h.alloc h.size _⟩
theorem Ab.nil (w : World) : Ab w (.slice none 0 0) [] w := ⟨⟨by simp [vb], .inl ⟨rfl, rfl⟩⟩, new_refl w⟩
theorem Ab.len {w0 w : World} {v : Value} {z : List UInt8} (h : Ab w0 v z w) (m : Nat) (hm : z.length = m) : ∃ A c, v = .slice A m c ∧ (m ≤ c ∧ c ≤ maxLen) ∧ Reads w w.heap.size 1 A m (vb z) := by
  subst hm
  obtain ⟨A, c, rfl, h1, h2, hr⟩ := own_len h.own
  exact ⟨A, c, rfl, ⟨h1, h2⟩, hr⟩
theorem wpl_ab {ops : Array Oper} {rest : List Oper} {o : Oper} {a : Act} {Q : Exit → Act → World → Prop} {w : World} (hgd : o.guard = none) (s x : Operand)
    (ho : o.op = .call { callee := .builtin .append, args := #[s, x], argTypes := #[22, 22] })
    {w0 : World} {v : Value} {z l : List UInt8} {A : Option Addr} {c : Nat} (h : Ab w0 v z w) (hs : a.eval s = v) (hx : a.eval x = .slice A l.length c) (hr : Reads w w.heap.size 1 A l.length (vb l)) (hb : z.length + l.length ≤ 1099511627776)
    (hK : ∀ v' w', Ab w0 v' (z ++ l) w' → wpList Tryd.prog ops Q rest (a.put o.dst v') w') : wpList Tryd.prog ops Q (o :: rest) a w := by
  obtain ⟨i0, hi, hz0, hz1, hz2⟩ := info_parts byte_inf
  refine wpList_append_any w hgd s x 22 ho w0.heap.size 5 i0 _ 1 1 Tryd.underlying22 hi hz0 hz1 hz2 rfl (by omega) v _ _ hs h.own _ A l.length c (vb l) hx hr (vb_one _) (by unfold maxLen; omega) (by omega) h.new.size ?_
  intro v' w' hown hg _
  refine hK v' w' ⟨?_, h.new.grown hg h.new.size (fun k hk => (h.own.lt k hk).1)⟩
  rw [vb_append, List.length_append]
  exact hown
theorem step_ab {ops : Array Oper} {o : Oper} {a : Act} {K : Act → World → Prop} {Q : Exit → Act → World → Prop} {E : Prop} {w : World} (hgd : o.guard = none) (s x : Operand)
    (ho : o.op = .call { callee := .builtin .append, args := #[s, x], argTypes := #[22, 22] })
    {w0 : World} {v : Value} {z l : List UInt8} {A : Option Addr} {c : Nat} (h : Ab w0 v z w) (hs : a.eval s = v) (hx : a.eval x = .slice A l.length c) (hr : Reads w w.heap.size 1 A l.length (vb l)) (hb : z.length + l.length ≤ 1099511627776)
    (hK : ∀ v' w', Ab w0 v' (z ++ l) w' → K (a.put o.dst v') w') :
    if Region.wanted o (yielded ops a.tmps) = true then Oper.wp Tryd.prog o a w K Q else E := by
  obtain ⟨i0, hi, hz0, hz1, hz2⟩ := info_parts byte_inf
  refine step_append_any w hgd s x 22 ho w0.heap.size 5 i0 _ 1 1 Tryd.underlying22 hi hz0 hz1 hz2 rfl (by omega) v _ _ hs h.own _ A l.length c (vb l) hx hr (vb_one _) (by unfold maxLen; omega) (by omega) h.new.size ?_
  intro v' w' hown hg _
  refine hK v' w' ⟨?_, h.new.grown hg h.new.size (fun k hk => (h.own.lt k hk).1)⟩
  rw [vb_append, List.length_append]
  exact hown
theorem reads_b1 (W : World) (b : UInt8) (x : Int) (hx : x = (b.toNat : Int)) : Reads (W.alloc (.cells #[.int .u8 x] 5)) (W.alloc (.cells #[.int .u8 x] 5)).heap.size 1 (some ⟨W.heap.size, 0, none⟩) [b].length (vb [b]) := by
  subst hx
  exact reads_new W _ _

def msgz (l : List UInt8) (k : Nat) : List UInt8 := l ++ 128 :: List.replicate k 0
theorem msgz_length (l : List UInt8) (k n : Nat) (hn : n = l.length) : (msgz l k).length = n + 1 + k := by simp [msgz, hn]; omega
theorem msgz_succ (l : List UInt8) (k : Nat) : msgz l (k + 1) = msgz l k ++ [0] := by simp [msgz, List.replicate_succ']
theorem msg_z (l : List UInt8) (n : Nat) (hn : n = l.length) : msg l = msgz l (padz (n % 64)) ++ (be8 (8 * n)).take (8 - 0) := by subst hn; simp [msg, msgz, be8]
theorem padz_at (n k : Nat) (hk : k ≤ padz (n % 64)) : (n + 1 + k) % 64 = 56 ↔ k = padz (n % 64) := by
  unfold padz at *
  split at hk <;> rename_i h
  · rw [if_pos h]; omega
  · rw [if_neg h]; omega
theorem padz_le (n : Nat) : padz (n % 64) ≤ 63 := by
  unfold padz
  split <;> omega
theorem be8_take (N j : Nat) (h : j < 8) : (be8 N).take (8 - j) = (be8 N).take (8 - (j + 1)) ++ [UInt8.ofNat (N / 2 ^ (8 * j))] := by
  obtain ⟨hlt, e⟩ := List.getElem?_eq_some_iff.1 (be8_at N j h)
  rw [show 8 - j = (7 - j) + 1 by omega, List.take_succ_eq_append_getElem hlt, e, show 8 - (j + 1) = 7 - j by omega]

set_option maxRecDepth 100000 in
set_option maxHeartbeats 4000000 in
theorem rmessage_any (A : Option Addr) (n c : Nat) (l : List UInt8) (w : World) (hn : n = l.length) (hl : n ≤ 1000000) (hA : Reads w w.heap.size 1 A n (vb l)) :
    Calls Tryd.prog 27 #[.slice A n c] w fun e w' => ∃ v, e = .returned v ∧ Ab w v (msg l) w' := by
  have HA := Lib.hid hA
  have HN := Lib.hid hn
  have hpz := padz_le n
  clear hA hn
  go_enter Tryd.func27, Tryd.ntmps27
  go_wp2_with (first
    | (at_builtin; refine wpl_ab (w0 := w) (z := []) (l := l) rfl (.tmp 6) (.tmp 7) rfl (Ab.made w w (new_refl w)) rfl (by rw [← HN.out]; rfl) (by rw [← HN.out]; exact HA.out.new (alloc_new w _)) (by have := HN.out; simp; omega) ?_; intro v2 w2 hM2; have HM2 := Lib.hid hM2; clear hM2)
    | (at_builtin; refine wpl_ab (w0 := w) (z := [] ++ l) (l := [128]) rfl (.tmp 8) (.tmp 9) rfl (HM2.out.keep (alloc_new w2 _)) rfl rfl (reads_b1 w2 128 _ rfl) (by have := HN.out; simp; omega) ?_; intro v3 w3 hM3; obtain ⟨A3, c3, rfl, -, -⟩ := hM3.len (n + 1) (by have := HN.out; simp; omega); have HM3 := Lib.hid hM3; clear hM3)
    | fail)
  go_loopw [3] (fun vo wr => ∃ A m c k, vo = .slice A m c ∧ m = n + 1 + k ∧ k ≤ padz (n % 64) ∧ Hid (Ab w (.slice A m c) (msgz l k) wr)) (fun vo _ => match vo with | .slice _ m _ => n + 200 - m | _ => 0)
  case atStart => exact ⟨A3, n + 1, c3, 0, rfl, rfl, Nat.zero_le _, Lib.hid (by have := HM3.out; simpa [msgz] using this)⟩
  case round =>
    clear HM2 HM3
    obtain ⟨A, m, c, k, rfl, hm, hk, HM⟩ := hrel
    have hp := padz_at n k hk
    rw [← hm] at hp
    have HP := Lib.hid hp
    have hm2 : m ≤ 1000064 := by omega
    clear hp
    by_cases he : k = padz (n % 64)
    · have hmod : (m : Int) % 64 = 56 := by have := HP.out.2 he; omega
      have HK := Lib.hid he
      have HMM := Lib.hid hm
      clear he hk hm
      go_wp2
      clear hmod
      go_loopw [3, 5] (fun vo vk wr => ∃ A m' c j, vo = .slice A m' c ∧ m' = m + (8 - j) ∧ j ≤ 8 ∧ vk = .int .i64 ((j : Int) - 1) ∧ Hid (Ab w (.slice A m' c) (msgz l k ++ (be8 (8 * n)).take (8 - j)) wr)) (fun _ vk _ => (intOf vk + 1).toNat)
      case atStart => exact ⟨A, m, c, 8, rfl, by omega, Nat.le_refl _, rfl, Lib.hid (by simpa using HM.out)⟩
      case round =>
        clear HM
        obtain ⟨A, m', c, j, rfl, hm', hj, rfl, HM⟩ := hrel
        rcases j with _ | j
        · rw [show ((0 : Nat) : Int) - 1 = -1 from rfl]
          go_wp2
          go_ret
          exact ⟨_, rfl, by rw [msg_z l n HN.out, ← HK.out]; exact HM.out⟩
        · have hi : ((j + 1 : Nat) : Int) - 1 = (j : Int) := by omega
          rw [hi]
          have HV := Lib.hid (tail_val n j _ rfl)
          have HMP := Lib.hid hm'
          clear hm'
          have HB := Lib.hid (be8_take (8 * n) j (by omega))
          go_wp2_with (first
            | (at_builtin; refine wpl_ab (w0 := w) (z := msgz l k ++ (be8 (8 * n)).take (8 - (j + 1))) (l := [UInt8.ofNat (8 * n / 2 ^ (8 * j))]) rfl (.tmp 26) (.tmp 33) rfl (HM.out.keep (alloc_new wr _)) rfl rfl (reads_b1 wr _ _ (by first | exact HV.out | (rw [Int.mul_comm]; exact HV.out))) (by have := HMM.out; simp [msgz_length l k n HN.out]; omega) ?_; intro v8 w8 hM8; obtain ⟨A8, c8, rfl, -, -⟩ := hM8.len (m' + 1) (by have := HMM.out; have := HMP.out; simp [msgz_length l k n HN.out, be8]; omega); have HM8 := Lib.hid hM8; clear hM8)
            | fail)
          go_roundw
          case rel =>
            exact ⟨A8, _, c8, j, rfl, by have := HMP.out; omega, by omega, by go_num, Lib.hid (by rw [HB.out, ← List.append_assoc]; exact HM8.out)⟩
          case measure => simp [intOf]
    · have hmod : ¬ (m : Int) % 64 = 56 := by intro h; exact he (HP.out.1 (by omega))
      have HMM := Lib.hid hm
      clear hm
      go_wp2_with (first
        | (at_builtin; refine wpl_ab (w0 := w) (z := msgz l k) (l := [0]) rfl (.tmp 15) (.tmp 16) rfl (HM.out.keep (alloc_new wr _)) rfl rfl (reads_b1 wr 0 _ rfl) (by have := HMM.out; simp [msgz_length l k n HN.out]; omega) ?_; intro v8 w8 hM8; obtain ⟨A8, c8, rfl, -, -⟩ := hM8.len (m + 1) (by have := HMM.out; simp [msgz_length l k n HN.out]; omega); have HM8 := Lib.hid hM8; clear hM8)
        | fail)
      go_roundw
      case rel => exact ⟨A8, _, c8, k + 1, rfl, by have := HMM.out; omega, by omega, Lib.hid (by rw [msgz_succ]; exact HM8.out)⟩
      case measure => have := HMM.out; simp; omega
end Go.Proofs.YtnmjgbkifglleaaDoor.sha
