/-
  Contracts of wire's writers: bytes with their length, entries.
-/
import Derived.Test.YtpkiopijfhkagaaGreatDoorWire
import Derived.Deep.RegionHeld3
namespace Go.Proofs.YtpkiopijfhkagaaGreatDoor.wire
open Go.RowKit Go.Proofs.YtpkiopijfhkagaaGreatDoor.mem Go.Proofs.YtpkiopijfhkagaaGreatDoor.kit
set_option linter.unusedVariables false

theorem reads_blk {w : World} {g : Nat} {t : TypeId} {cs : Array Value} (h : Blk w g t cs) : Reads w w.heap.size 1 (some ⟨g, 0, none⟩) cs.size cs.toList :=
  ⟨by simp, fun _ => ⟨_, rfl, h.lt, fun j u hu => by
    have : (⟨g, 0, none⟩ : Addr).add j = ⟨g, j, none⟩ := by unfold Addr.add; split <;> simp_all
    rw [this, h.cell]; simpa using hu⟩⟩

def lenB (l : List UInt8) : List UInt8 := numB l.length ++ l

set_option maxRecDepth 100000 in
theorem bytes_any (A : Option Addr) (c : Nat) (l : List UInt8) (w : World) (hl : l.length ≤ 549755813888) (hA : Reads w w.heap.size 1 A l.length (vb l)) :
    Calls Tryz.prog 12 #[.slice A l.length c] w (Got w (lenB l)) := by
  have HA := Lib.hid hA
  clear hA
  go_enter Tryz.func12, Tryz.ntmps12
  go_wp2_with (go_at_call 11; refine (number_any _ _).mono ?_; rintro e w1 ⟨A1, c1, rfl, ho, hn⟩)
  obtain ⟨_, _, e1, _, _, hr1⟩ := own_len ho
  injection e1 with eA _ ec
  subst eA
  subst ec
  have hA1 := HA.out.new hn
  have hn2 : New w (w1.alloc (.cells #[.slice A1 (numB l.length).length c1, .slice A l.length c] 23)) := hn.alloc hn.size _
  have hn1 := (new_refl w1).alloc (Nat.le_refl _) (.cells #[.slice A1 (numB l.length).length c1, .slice A l.length c] 23)
  have hp : Parts (w1.alloc (.cells #[.slice A1 (numB l.length).length c1, .slice A l.length c] 23)) [.slice A1 (numB l.length).length c1, .slice A l.length c] [numB l.length, l] :=
    ⟨rfl, fun k hk => by
      have : k = 0 ∨ k = 1 := by simp at hk; omega
      rcases this with rfl | rfl
      · exact ⟨A1, c1, rfl, hr1.new hn1⟩
      · exact ⟨A, c, rfl, hA1.new hn1⟩⟩
  have hrd := reads_blk (Blk.new w1 23 #[.slice A1 (numB l.length).length c1, .slice A l.length c])
  have HP := Lib.hid hp
  have HR := Lib.hid hrd
  clear hp hrd hA1 hr1 ho
  go_wp2_with (go_at_call 15; refine (join_any _ _ _ _ [numB l.length, l] _ rfl HP.out HR.out (by simp) (by simp [catB, numB_length]; omega)).mono ?_; rintro e w2 ⟨A2, c2, rfl, ho2, hj⟩)
  go_ret
  have e : catB [numB l.length, l] = lenB l := by simp [catB, lenB]
  rw [← e]
  exact Got.mk (own_base ho2 hn2.size) (hn2.then hj)

def trB (b : Bool) : Int := if b then 1 else 0
theorem truth_any (b : Bool) (w : World) : Calls Tryz.prog 36 #[.bool b] w fun e w' => e = .returned (.int .i64 (trB b)) ∧ w = w' := by
  cases b <;> (go_enter Tryz.func36, Tryz.ntmps36; go_wp2; go_ret; exact ⟨rfl, rfl⟩)

def entB (term kind version server : Int) (good : Bool) (data : List UInt8) : List UInt8 :=
  numB term ++ (numB kind ++ (numB version ++ (numB server ++ (numB (trB good) ++ lenB data))))

/-- Six cells that stand. -/
def Six (w : World) (g : Nat) (a b c d e f : Value) : Prop :=
  w.cell? ⟨g, 0, none⟩ = some a ∧ w.cell? ⟨g, 1, none⟩ = some b ∧ w.cell? ⟨g, 2, none⟩ = some c ∧ w.cell? ⟨g, 3, none⟩ = some d ∧ w.cell? ⟨g, 4, none⟩ = some e ∧ w.cell? ⟨g, 5, none⟩ = some f
theorem Six.new {w w' : World} {g : Nat} {a b c d e f : Value} (h : Six w g a b c d e f) (hn : New w w') : Six w' g a b c d e f := by
  obtain ⟨h0, h1, h2, h3, h4, h5⟩ := h
  have hg := block_lt_of_cell h0
  exact ⟨(hn.cell (p := ⟨g, 0, none⟩) hg).trans h0, (hn.cell (p := ⟨g, 1, none⟩) hg).trans h1, (hn.cell (p := ⟨g, 2, none⟩) hg).trans h2, (hn.cell (p := ⟨g, 3, none⟩) hg).trans h3, (hn.cell (p := ⟨g, 4, none⟩) hg).trans h4, (hn.cell (p := ⟨g, 5, none⟩) hg).trans h5⟩

/-- What is carried from part to part. -/
def Carry (w0 : World) (A : Option Addr) (m : Nat) (r : List Value) (vs : List Value) (ls : List (List UInt8)) (w : World) : Prop := Parts w vs ls ∧ New w0 w ∧ Reads w w.heap.size 1 A m r
theorem Carry.step {w0 w w' : World} {A A1 : Option Addr} {m c1 : Nat} {r : List Value} {vs : List Value} {ls : List (List UInt8)} {l : List UInt8} (h : Carry w0 A m r vs ls w) (ho : w'.ownsRow w.heap.size 5 1 (.slice A1 l.length c1) l.length (vb l)) (hn : New w w') :
    Carry w0 A m r (vs ++ [.slice A1 l.length c1]) (ls ++ [l]) w' := by
  obtain ⟨hp, h0, hr⟩ := h
  have hp' := hp.new hn
  refine ⟨⟨by simp [hp'.1], fun k hk => ?_⟩, h0.then hn, hr.new hn⟩
  by_cases hlt : k < ls.length
  · obtain ⟨A', c', e, hr'⟩ := hp'.2 k hlt
    exact ⟨A', c', by rw [List.getElem?_append_left (by rw [hp'.1]; exact hlt), e, List.getElem_append_left hlt], by rw [List.getElem_append_left hlt]; exact hr'⟩
  · have : k = ls.length := by simp at hk; omega
    subst this
    obtain ⟨A', c', e, _, _, hr'⟩ := own_len ho
    injection e with eA _ ec
    subst eA
    refine ⟨A1, c1, ?_, by simpa using hr'⟩
    rw [List.getElem?_append_right (by rw [hp'.1]; exact Nat.le_refl _)]
    simp [hp'.1]

theorem number_six {w0 : World} {A0 : Option Addr} {m0 : Nat} {r0 vs : List Value} {ls : List (List UInt8)} (n : Int) (w : World) (g : Nat) (a b c d e f : Value) (hC : Carry w0 A0 m0 r0 vs ls w) (h : w.cell? ⟨g, 0, none⟩ = some a ∧ w.cell? ⟨g, 1, none⟩ = some b ∧ w.cell? ⟨g, 2, none⟩ = some c ∧ w.cell? ⟨g, 3, none⟩ = some d ∧ w.cell? ⟨g, 4, none⟩ = some e ∧ w.cell? ⟨g, 5, none⟩ = some f) :
    Calls Tryz.prog 11 #[.int .i64 n] w (fun x w' => ∃ A1 c1, x = .returned (.slice A1 (numB n).length c1) ∧ Carry w0 A0 m0 r0 (vs ++ [.slice A1 (numB n).length c1]) (ls ++ [numB n]) w' ∧ Six w' g a b c d e f) :=
  (number_any n w).mono fun x w' k => by obtain ⟨A1, c1, rfl, ho, hn⟩ := k; exact ⟨A1, c1, rfl, hC.step ho hn, Six.new h hn⟩
theorem bytes_six {w0 : World} {vs : List Value} {ls : List (List UInt8)} (A : Option Addr) (k : Nat) (l : List UInt8) (w : World) (hl : l.length ≤ 549755813888) (g : Nat) (a b c d e f : Value) (hC : Carry w0 A l.length (vb l) vs ls w) (h : w.cell? ⟨g, 0, none⟩ = some a ∧ w.cell? ⟨g, 1, none⟩ = some b ∧ w.cell? ⟨g, 2, none⟩ = some c ∧ w.cell? ⟨g, 3, none⟩ = some d ∧ w.cell? ⟨g, 4, none⟩ = some e ∧ w.cell? ⟨g, 5, none⟩ = some f) :
    Calls Tryz.prog 12 #[.slice A l.length k] w (fun x w' => ∃ A1 c1, x = .returned (.slice A1 (lenB l).length c1) ∧ Carry w0 A l.length (vb l) (vs ++ [.slice A1 (lenB l).length c1]) (ls ++ [lenB l]) w' ∧ Six w' g a b c d e f) :=
  (bytes_any A k l w hl hC.2.2).mono fun x w' k => by obtain ⟨A1, c1, rfl, ho, hn⟩ := k; exact ⟨A1, c1, rfl, hC.step ho hn, Six.new h hn⟩
theorem join_six {w0 : World} {A0 : Option Addr} {m0 : Nat} {r0 : List Value} (n : Nat) (t : TypeId) (cs : Array Value) (ls : List (List UInt8)) (w : World) (g : Nat) (a b c d e f : Value) (hn : n = ls.length) (hC : Carry w0 A0 m0 r0 cs.toList ls w) (hk0 : ls.length ≤ 1099511627776) (ht : (catB ls).length ≤ 1099511627776) (h : (w.alloc (.cells cs t)).cell? ⟨g, 0, none⟩ = some a ∧ (w.alloc (.cells cs t)).cell? ⟨g, 1, none⟩ = some b ∧ (w.alloc (.cells cs t)).cell? ⟨g, 2, none⟩ = some c ∧ (w.alloc (.cells cs t)).cell? ⟨g, 3, none⟩ = some d ∧ (w.alloc (.cells cs t)).cell? ⟨g, 4, none⟩ = some e ∧ (w.alloc (.cells cs t)).cell? ⟨g, 5, none⟩ = some f) :
    Calls Tryz.prog 15 #[.slice (some ⟨w.heap.size, 0, none⟩) n n] (w.alloc (.cells cs t)) (fun x w' => ∃ A1 c1, x = .returned (.slice A1 (catB ls).length c1) ∧ w'.ownsRow w0.heap.size 5 1 (.slice A1 (catB ls).length c1) (catB ls).length (vb (catB ls)) ∧ New w0 w' ∧ Six w' g a b c d e f) := by
  have hsz : cs.size = n := by rw [hn, ← hC.1.1]; simp
  have hr := reads_blk (Blk.new w t cs)
  rw [hsz] at hr
  have ha := (new_refl w).alloc (Nat.le_refl _) (.cells cs t)
  refine (join_any (some ⟨w.heap.size, 0, none⟩) n n cs.toList ls _ hn (hC.1.new ha) hr hk0 ht).mono fun x w' k => ?_
  obtain ⟨A1, c1, rfl, ho, hj⟩ := k
  exact ⟨A1, c1, rfl, own_base ho (hC.2.1.then ha).size, (hC.2.1.then ha).then hj, Six.new h hj⟩

set_option maxRecDepth 100000 in
set_option maxHeartbeats 2000000 in
theorem entry_any (term kind version server : Int) (good : Bool) (A : Option Addr) (c : Nat) (l : List UInt8) (w : World) (k0 : 0 ≤ kind) (k1 : kind ≤ 255) (hl : l.length ≤ 274877906944) (hA : Reads w w.heap.size 1 A l.length (vb l)) :
    Calls Tryz.prog 13 #[.agg #[.int .i64 term, .int .u8 kind, .int .i64 version, .int .i64 server, .bool good, .slice A l.length c]] w (Got w (entB term kind version server good l)) := by
  have hnw := (new_refl w).alloc (Nat.le_refl _) (.cells #[.int .i64 term, .int .u8 kind, .int .i64 version, .int .i64 server, .bool good, .slice A l.length c] 28)
  have hC : Carry w A l.length (vb l) [] [] (w.alloc (.cells #[.int .i64 term, .int .u8 kind, .int .i64 version, .int .i64 server, .bool good, .slice A l.length c] 28)).drew := ⟨⟨rfl, fun k hk => absurd hk (by simp)⟩, hnw.drew, Reads.drew (hA.new hnw)⟩
  clear hA hnw
  have e : catB [numB term, numB kind, numB version, numB server, numB (trB good), lenB l] = entB term kind version server good l := by simp [catB, entB]
  have hlen : (catB [numB term, numB kind, numB version, numB server, numB (trB good), lenB l]).length ≤ 1099511627776 := by simp [catB, numB_length, lenB]; omega
  rw [← e]
  clear e
  have hkw : IntKind.i64.wrap kind = kind := IntWalk.i64_in _ (by omega)
  go_enter Tryz.func13, Tryz.ntmps13
  go_wp2
  go_region_held3 (fun w' => w'.cell? ⟨w.heap.size, 0, none⟩ = some (.int .i64 term) ∧ w'.cell? ⟨w.heap.size, 1, none⟩ = some (.int .u8 kind) ∧ w'.cell? ⟨w.heap.size, 2, none⟩ = some (.int .i64 version) ∧ w'.cell? ⟨w.heap.size, 3, none⟩ = some (.int .i64 server) ∧ w'.cell? ⟨w.heap.size, 4, none⟩ = some (.bool good) ∧ w'.cell? ⟨w.heap.size, 5, none⟩ = some (.slice A l.length c))
    (go_keep)
    (first
      | (go_at_call 11; refine (number_six _ _ w.heap.size (.int .i64 term) (.int .u8 kind) (.int .i64 version) (.int .i64 server) (.bool good) (.slice A l.length c) hC (by assumption)).mono ?_; rintro e w1 ⟨A1, c1, rfl, hC, s0, s1, s2, s3, s4, s5⟩)
      | (go_at_call 36; refine (truth_any _ _).mono ?_; rintro e w1 ⟨rfl, rfl⟩)
      | (go_at_call 12; refine (bytes_six _ _ _ _ (by omega) w.heap.size (.int .i64 term) (.int .u8 kind) (.int .i64 version) (.int .i64 server) (.bool good) (.slice A l.length c) hC (by assumption)).mono ?_; rintro e w1 ⟨A1, c1, rfl, hC, s0, s1, s2, s3, s4, s5⟩)
      | (go_at_call 15; refine (join_six 6 _ _ [numB term, numB kind, numB version, numB server, numB (trB good), lenB l] _ w.heap.size (.int .i64 term) (.int .u8 kind) (.int .i64 version) (.int .i64 server) (.bool good) (.slice A l.length c) rfl hC (by simp) hlen (by assumption)).mono ?_; rintro e w1 ⟨A1, c1, rfl, hD, hE, s0, s1, s2, s3, s4, s5⟩))
  go_wp2
  go_ret
  exact Got.mk hD hE

end Go.Proofs.YtpkiopijfhkagaaGreatDoor.wire
