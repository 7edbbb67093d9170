/-
  Contracts of the document's writers.
-/
import Derived.Test.YtpkiopijfhkagaaGreatDoorWireB
namespace Go.Proofs.YtpkiopijfhkagaaGreatDoor.rwire
open Go.RowKit Go.Proofs.YtpkiopijfhkagaaGreatDoor.mem Go.Proofs.YtpkiopijfhkagaaGreatDoor.kit Go.Proofs.YtpkiopijfhkagaaGreatDoor.wire
set_option linter.unusedVariables false

theorem numB_take (n : Int) (k : Nat) (h : k < 8) : (numB n).take (k + 1) = (numB n).take k ++ [nbyte n k] := by
  rw [← List.take_append_getElem (by rw [numB_length]; exact h)]
  simp [numB]

set_option maxRecDepth 100000 in
theorem number_any (n : Int) (w : World) : Calls Tryz.prog 4 #[.int .i64 n] w (Got w (numB n)) := by
  obtain ⟨i0, hi, hz0, hz1, hz2⟩ := info_parts byte_info
  go_enter Tryz.func4, Tryz.ntmps4
  go_wp2
  go_loopw [3, 4] (fun v i wr => ∃ k : Nat, k ≤ 8 ∧ i = .int .i64 (7 - (k : Int)) ∧ wr.ownsRow w.heap.size 5 1 v k (vb ((numB n).take k)) ∧ New w wr) (fun _ i _ => (intOf i + 1).toNat)
  case atStart => exact ⟨0, Nat.zero_le _, rfl, World.ownsRow_nil _ _ _ _, new_refl _⟩
  case round =>
    obtain ⟨k, hk, rfl, ho, hn⟩ := hrel
    have HO := Lib.hid ho
    clear ho
    by_cases hlt : k < 8
    · have g1 : (0 : Int) ≤ 7 - (k : Int) := by omega
      have g2 : 8 * (7 - (k : Int)) = ((8 * (7 - k) : Nat) : Int) := by omega
      have e1 := nbyte_eq n k
      have e2 := numB_take n k hlt
      have HE2 := Lib.hid e2
      have HE1 := Lib.hid e1
      clear e1 e2
      go_wp2_with
        (at_builtin; refine wpList_append_any _ rfl (.tmp 9) (.tmp 16) 23 rfl w.heap.size 5 i0 _ 1 1 Tryz.underlying23 hi hz0 hz1 hz2 rfl (by omega) _ _ _ rfl (HO.out.alloc _) _ _ 1 1 _ rfl (reads_new _ _ _) (by simp [Value.oneCell']) (by unfold maxLen; omega) (by omega) (by have := hn.size; simp; omega) ?_; intro v2 w2 hown2 hg2 _)
      have hb2 : New w w2 := (hn.alloc hn.size _).grown hg2 (by have := hn.size; simp; omega) (fun j hj => (HO.out.lt j hj).1)
      rw [HE1.out, show [Value.int IntKind.u8 ((nbyte n k).toNat : Int)] = vb [nbyte n k] from rfl, ← vb_append, ← HE2.out] at hown2
      go_roundw
      case rel => exact ⟨k + 1, by omega, by go_num, hown2, hb2⟩
      case measure => simp [intOf]; omega
    · obtain rfl : k = 8 := by omega
      go_wp2
      go_ret
      have e : (numB n).take 8 = numB n := List.take_of_length_le (by rw [numB_length]; omega)
      refine Got.mk (l := numB n) ?_ hn
      rw [numB_length, ← e]
      exact HO.out


set_option maxRecDepth 100000 in
theorem bytes_any (A : Option Addr) (c : Nat) (l : List UInt8) (w : World) (hl : l.length ≤ 549755813888) (hA : Reads w w.heap.size 1 A l.length (vb l)) :
    Calls Tryz.prog 14 #[.slice A l.length c] w (Got w (lenB l)) := by
  obtain ⟨i0, hi, hz0, hz1, hz2⟩ := info_parts byte_info
  have HA := Lib.hid hA
  clear hA
  go_enter Tryz.func14, Tryz.ntmps14
  go_wp2_with (first
    | (go_at_call 4; refine (number_any _ _).mono ?_; rintro e w1 ⟨A1, c1, rfl, ho, hn⟩; have HO := Lib.hid ho; clear ho)
    | (at_builtin; refine wpList_append_any _ rfl (.tmp 5) (.tmp 6) 23 rfl w.heap.size 5 i0 _ 1 1 Tryz.underlying23 hi hz0 hz1 hz2 rfl (by omega) _ _ _ rfl HO.out _ _ _ _ _ rfl (HA.out.new hn) (vb_one _) (by rw [numB_length]; unfold maxLen; omega) (by rw [numB_length]; omega) hn.size ?_; intro v2 w2 hown2 hg2 _))
  have hb2 : New w w2 := hn.grown hg2 hn.size (fun j hj => (HO.out.lt j hj).1)
  go_ret
  refine Got.mk ?_ hb2
  unfold lenB
  rw [vb_append, List.length_append]
  exact hown2

/-- A row that grows, and what stands beside it. -/
structure Acc (w0 : World) (B g : Nat) (a b c d e f : Value) (A : Option Addr) (m : Nat) (r : List Value) (v : Value) (l : List UInt8) (w : World) : Prop where
  own : w.ownsRow B 5 1 v l.length (vb l)
  base : B ≤ w.heap.size
  at_ : g < B
  old : w0.heap.size ≤ B
  new : New w0 w
  reads : Reads w w0.heap.size 1 A m r
  six : Six w g a b c d e f

theorem Acc.keep {w0 w w' : World} {B g : Nat} {a b c d e f : Value} {A : Option Addr} {m : Nat} {r : List Value} {v : Value} {l : List UInt8} (h : Acc w0 B g a b c d e f A m r v l w) (hn : New w w') : Acc w0 B g a b c d e f A m r v l w' :=
  ⟨own_new h.own hn, Nat.le_trans h.base hn.size, h.at_, h.old, h.new.then hn, h.reads.below (hn.mono h.new.size), h.six.new hn⟩

theorem number_acc {w0 : World} {B g : Nat} {a b c d e f : Value} {A : Option Addr} {m : Nat} {r : List Value} {v : Value} {l : List UInt8} (n : Int) (w : World) (h : Acc w0 B g a b c d e f A m r v l w) :
    Calls Tryz.prog 4 #[.int .i64 n] w (fun x w' => ∃ A1 c1, x = .returned (.slice A1 (numB n).length c1) ∧ Acc w0 B g a b c d e f A m r v l w' ∧ Reads w' w'.heap.size 1 A1 (numB n).length (vb (numB n)) ∧ Six w' g a b c d e f) :=
  (number_any n w).mono fun x w' k => by
    obtain ⟨A1, c1, rfl, ho, hn⟩ := k
    obtain ⟨_, _, e, _, _, hr⟩ := own_len ho
    injection e with eA _ ec
    subst eA
    exact ⟨A1, c1, rfl, h.keep hn, hr, h.six.new hn⟩
theorem bytes_acc {w0 : World} {B g : Nat} {a b c d e f : Value} {A : Option Addr} {z : List UInt8} {v : Value} {l : List UInt8} (k : Nat) (w : World) (hz : z.length ≤ 549755813888) (h : Acc w0 B g a b c d e f A z.length (vb z) v l w) :
    Calls Tryz.prog 14 #[.slice A z.length k] w (fun x w' => ∃ A1 c1, x = .returned (.slice A1 (lenB z).length c1) ∧ Acc w0 B g a b c d e f A z.length (vb z) v l w' ∧ Reads w' w'.heap.size 1 A1 (lenB z).length (vb (lenB z)) ∧ Six w' g a b c d e f) :=
  (bytes_any A k z w hz (h.reads.more h.new.size)).mono fun x w' k => by
    obtain ⟨A1, c1, rfl, ho, hn⟩ := k
    obtain ⟨_, _, e, _, _, hr⟩ := own_len ho
    injection e with eA _ ec
    subst eA
    exact ⟨A1, c1, rfl, h.keep hn, hr, h.six.new hn⟩

theorem wpList_acc {ops : Array Oper} {rest : List Oper} {o : Oper} {q : Act} {Q : Exit → Act → World → Prop} {w : World} (hgd : o.guard = none) (s x : Operand)
    (ho : o.op = .call { callee := .builtin .append, args := #[s, x], argTypes := #[23, 23] })
    {w0 : World} {B g : Nat} {a b c d e f : Value} {A : Option Addr} {m : Nat} {r : List Value} {v : Value} {l : List UInt8} (h : Acc w0 B g a b c d e f A m r v l w) (hs : q.eval s = v)
    {A1 : Option Addr} {c1 : Nat} {z : List UInt8} (hx : q.eval x = .slice A1 z.length c1) (hr : Reads w w.heap.size 1 A1 z.length (vb z)) (hb : l.length + z.length ≤ 1099511627776)
    (hK : ∀ v' w', Acc w0 B g a b c d e f A m r v' (l ++ z) w' → Six w' g a b c d e f → wpList Tryz.prog ops Q rest (q.put o.dst v') w') : wpList Tryz.prog ops Q (o :: rest) q w := by
  obtain ⟨i0, hi, hz0, hz1, hz2⟩ := info_parts byte_info
  refine wpList_append_any w hgd s x 23 ho B 5 i0 _ 1 1 Tryz.underlying23 hi hz0 hz1 hz2 rfl (by omega) v _ _ hs h.own _ A1 z.length c1 (vb z) hx hr (vb_one _) (by unfold maxLen; omega) (by omega) h.base ?_
  intro v' w' hown hg hat
  have hch := Ch.of_grown hg
  have hlt := h.own.lt
  have hsix : Six w' g a b c d e f := by
    obtain ⟨h0, h1, h2, h3, h4, h5⟩ := h.six
    have hn : ∀ i, ¬ (some (⟨g, i, none⟩ : Addr).block = v.ownBlock) := fun i hh => by have := (hlt g hh.symm).1; have := h.at_; omega
    exact ⟨hch.cellOf h0 (hn 0), hch.cellOf h1 (hn 1), hch.cellOf h2 (hn 2), hch.cellOf h3 (hn 3), hch.cellOf h4 (hn 4), hch.cellOf h5 (hn 5)⟩
  refine hK v' w' ⟨?_, Nat.le_trans h.base hch.size, h.at_, h.old, h.new.grown hg h.new.size (fun j hj => Nat.le_trans h.old (hlt j hj).1), ?_, hsix⟩ hsix
  · rw [vb_append, List.length_append]; exact hown
  · exact h.reads.keep fun p hp => World.cell?_of_block (hg.block p.block (Nat.lt_of_lt_of_le hp h.new.size) (fun e => by have := (hlt _ e.symm).1; have := h.old; omega))

set_option maxRecDepth 100000 in
set_option maxHeartbeats 1000000 in
theorem entry_any (term kind version server : Int) (good : Bool) (A : Option Addr) (c : Nat) (l : List UInt8) (w : World) (k0 : 0 ≤ kind) (k1 : kind ≤ 255) (hl : l.length ≤ 274877906944) (hA : Reads w w.heap.size 1 A l.length (vb l)) :
    Calls Tryz.prog 7 #[.agg #[.int .i64 term, .int .u8 kind, .int .i64 version, .int .i64 server, .bool good, .slice A l.length c]] w (Got w (entB term kind version server good l)) := by
  have hnw := (new_refl w).alloc (Nat.le_refl _) (.cells #[.int .i64 term, .int .u8 kind, .int .i64 version, .int .i64 server, .bool good, .slice A l.length c] 28)
  have hS : Six (w.alloc (.cells #[.int .i64 term, .int .u8 kind, .int .i64 version, .int .i64 server, .bool good, .slice A l.length c] 28)) w.heap.size (.int .i64 term) (.int .u8 kind) (.int .i64 version) (.int .i64 server) (.bool good) (.slice A l.length c) := by
    refine ⟨?_, ?_, ?_, ?_, ?_, ?_⟩ <;> simp [go_sem]
  have HS := Lib.hid hS
  have HA := Lib.hid (hA.below hnw)
  clear hA hS
  have hkw : IntKind.i64.wrap kind = kind := IntWalk.i64_in _ (by omega)
  have e : (((((numB term ++ numB kind) ++ numB version) ++ numB server) ++ numB (trB good)) ++ lenB l) = entB term kind version server good l := by simp [entB]
  have hlen : (lenB l).length ≤ 274877906952 := by simp [lenB, numB_length]; omega
  rw [← e]
  clear e
  cases good <;> (
    go_enter Tryz.func7, Tryz.ntmps7
    go_wp2_with (go_at_call 4; refine (number_any _ _).mono ?_; rintro e w1 ⟨A1, c1, rfl, ho, hn⟩; have hS := HS.out.new hn; obtain ⟨s0, s1, s2, s3, s4, s5⟩ := hS)
    have hC : Acc w (w.heap.size + 1) w.heap.size (.int .i64 term) (.int .u8 kind) (.int .i64 version) (.int .i64 server) (.bool _) (.slice A l.length c) A l.length (vb l) (.slice A1 (numB term).length c1) (numB term) w1 :=
      ⟨own_base ho (by simp), by have := hn.size; simpa using this, by omega, by omega, New.then hnw hn, HA.out.below (hn.mono (by simp)), ⟨s0, s1, s2, s3, s4, s5⟩⟩
    clear ho hn
    go_wp2_with (first
      | (go_at_call 4; refine (number_acc _ _ hC).mono ?_; rintro e w2 ⟨A2, c2, rfl, hC, hr, s0, s1, s2, s3, s4, s5⟩)
      | (go_at_call 14; refine (bytes_acc _ _ (by omega) hC).mono ?_; rintro e w2 ⟨A2, c2, rfl, hC, hr, s0, s1, s2, s3, s4, s5⟩)
      | (at_builtin; refine wpList_acc rfl _ _ rfl hC rfl rfl hr (by simp only [List.length_append, numB_length]; omega) ?_; intro v2 w2 hC ⟨s0, s1, s2, s3, s4, s5⟩))
    go_ret
    exact Got.mk (own_base hC.own (by omega)) hC.new)
end Go.Proofs.YtpkiopijfhkagaaGreatDoor.rwire
