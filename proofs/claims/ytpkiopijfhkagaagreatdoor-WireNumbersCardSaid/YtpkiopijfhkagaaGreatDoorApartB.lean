/-
  ApartBytes: lists of bytes that lie apart are told so.
-/
import Derived.Test.YtpkiopijfhkagaaGreatDoorApart
namespace Go.Proofs.YtpkiopijfhkagaaGreatDoor.kit
open Go.RowKit Go.Proofs.YtpkiopijfhkagaaGreatDoor.mem Go.Proofs.YtpkiopijfhkagaaGreatDoor.wire
set_option linter.unusedVariables false

/-- Rows of bytes of the call's own, pairwise apart. -/
structure Each (B : Nat) (vs : List Value) (ns : List Nat) (w : World) : Prop where
  len : vs.length = ns.length
  each : ∀ k (h : k < ns.length), ∃ A c xs, vs[k]? = some (.slice A ns[k] c) ∧ w.ownsRow B 5 1 (.slice A ns[k] c) ns[k] xs
  apart : ∀ j k, j < k → k < ns.length → ∀ u v g, vs[j]? = some u → vs[k]? = some v → u.ownBlock = some g → v.ownBlock ≠ some g
theorem Each.new {B : Nat} {vs : List Value} {ns : List Nat} {w w' : World} (h : Each B vs ns w) (hn : New w w') : Each B vs ns w' :=
  ⟨h.len, fun k hk => by obtain ⟨A, c, xs, hv, ho⟩ := h.each k hk; exact ⟨A, c, xs, hv, own_new ho hn⟩, h.apart⟩

/-- The bag while it is filled. -/
structure Fill (w : World) (vs : List Value) (k : Nat) (w' : World) : Prop where
  new : New w w'
  bag : ∃ v, Bag w' w.heap.size v ∧ w'.ownsRow w.heap.size 23 1 v k (vs.take k)

set_option maxRecDepth 100000 in
set_option maxHeartbeats 1000000 in
theorem ApartBytes_any (w : World) (B : Nat) (A : Option Addr) (C : Nat) (vs : List Value) (ns : List Nat) (hB : B ≤ w.heap.size) (hK : ns.length ≤ 1000000) (hns : ∀ k (h : k < ns.length), ns[k] ≤ 1099511627776) (hE : Each B vs ns w) (hA : Reads w w.heap.size 1 A ns.length vs) :
    Calls Tryz.prog 19 #[.slice A ns.length C] w fun e w' => e = .returned (.bool true) ∧ Ch (InRows vs) w w' := by
  have HE := Lib.hid hE
  have HA := Lib.hid hA
  have HNS := Lib.hid hns
  have hS0 : Fill w vs 0 (w.alloc (.cells (bagCells nil_) 73)) := ⟨(new_refl w).alloc (Nat.le_refl _) _, nil_, Blk.new _ _ _, World.ownsRow_nil _ _ _ _⟩
  clear hE hA hns
  go_enter Tryz.func19, Tryz.ntmps19
  go_wp2
  go_loopw [4] (fun kk wr => ∃ k : Nat, k ≤ ns.length ∧ kk = .int .i64 k ∧ Fill w vs k wr) (fun kk _ => ns.length - (intOf kk).toNat)
  case atStart => exact ⟨0, Nat.zero_le _, rfl, hS0⟩
  case round =>
    clear hS0
    obtain ⟨k, hk, rfl, hS⟩ := hrel
    obtain ⟨hn, v, hb, ho⟩ := hS
    by_cases hlt : k < ns.length
    · obtain ⟨ad, u, rfl, had, hx, hc0⟩ := HA.out.at_ hlt
      obtain ⟨Ak, ck, xk, hvk, _⟩ := HE.out.each k hlt
      rw [hvk] at hx
      injection hx with hx
      subst hx
      have hc := (hn.cell (p := ad.add k) (by rw [block_of_add]; exact had)).trans hc0
      have hsz := hn.size
      have HB := Lib.hid hb
      have HO := Lib.hid ho
      clear hc0 hb ho
      go_wp2_with (go_at_call 38; refine (put_any w.heap.size w.heap.size k v (vs.take k) Ak ns[k] ck _ (by omega) hsz HB.out (Nat.le_refl _) HO.out).mono ?_; rintro e w2 ⟨rfl, v', hb', ho', hbl⟩; have HB' := Lib.hid hb'; have HO' := Lib.hid ho'; clear hb' ho')
      have e2 : vs.take k ++ [Value.slice Ak ns[k] ck] = vs.take (k + 1) := by rw [List.take_add_one, hvk]; rfl
      go_roundw
      case rel => exact ⟨k + 1, by omega, by go_num, hn.trans hbl, v', HB'.out, by rw [← e2]; exact HO'.out⟩
      case measure => simp [intOf]; omega
    · obtain rfl : k = ns.length := by omega
      have hlen := HE.out.len
      rw [List.take_of_length_le (by omega)] at ho
      obtain ⟨A', C', hv, _⟩ := own_len ho
      subst hv
      have hB' : B ≤ wr.heap.size := Nat.le_trans hB hn.size
      have hF : FS wr B (.slice A' ns.length C') vs ns (fun _ _ => True) wr := ⟨own_base ho hB, fun k hk => by
        obtain ⟨Ak, ck, xs, hv, hok⟩ := HE.out.each k hk
        exact ⟨Ak, ck, xs, hv, own_new hok hn, trivial⟩, HE.out.apart, Ch.refl _ _⟩
      have HB := Lib.hid hb
      have HF := Lib.hid hF
      clear hb ho hF hlt hk
      go_wp2_with (go_at_call 39; refine (apart_any _ B w.heap.size A' C' vs ns hB' hK HNS.out HB.out HF.out).mono ?_; rintro e w2 ⟨rfl, hch⟩)
      go_ret
      exact ⟨rfl, (Ch.of_new hn).then hch (fun _ _ h => h)⟩
end Go.Proofs.YtpkiopijfhkagaaGreatDoor.kit
