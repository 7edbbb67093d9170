/-
  Text: TextRows' walk.
-/
import Derived.Test.YtcebfihjcglnoaaGreatDoorTRa
import Derived.Test.YtcebfihjcglnoaaGreatDoorTBd
namespace Go.Proofs.YtcebfihjcglnoaaGreatDoor.txt
open Go.RowKit Go.Proofs.YtcebfihjcglnoaaGreatDoor.mem Go.Proofs.YtcebfihjcglnoaaGreatDoor.kit Go.Proofs.YtcebfihjcglnoaaGreatDoor.ins
set_option linter.unusedVariables false
set_option linter.unusedSimpArgs false

section
variable {P : Program} {w : World}
theorem wpList_append_g {ops : Array Oper} {rest : List Oper} {o : Oper} {a : Act} {Q : Exit → Act → World → Prop} (hgd : Region.wanted o (yielded ops a.tmps) = true) (s x : Operand) (t : TypeId)
    (ho : o.op = .call { callee := .builtin .append, args := #[s, x], argTypes := #[t, t] })
    (base : Nat) (e : TypeId) (i : TypeInfo) (z : Value) (size bytes : Nat) (ht : P.underlying t = some (.slice e)) (hi : P.info? e = some i) (hz : i.zero = some z)
    (hsize : i.size = size) (hby : i.bytes = bytes) (hzs : z.cells.size = size) (hsz : 0 < size)
    (v : Value) (n : Nat) (xs : List Value) (hs : a.eval s = v) (hown : w.ownsRow base e size v n xs)
    (B : Nat) (A : Option Addr) (m c : Nat) (news : List Value) (hx : a.eval x = .slice A m c) (hr : Reads w B size A m news) (h1 : ∀ u ∈ news, u.oneCell' = true)
    (h63 : n + m ≤ maxLen) (hbytes : (n + m) * bytes ≤ 140737488355328) (hbase : base ≤ w.heap.size)
    (h : ∀ v' w', w'.ownsRow base e size v' (n + m) (xs ++ news) → w.grownBy w' v.ownBlock → (v'.ownBlock = v.ownBlock ∨ v'.ownBlock = some w.heap.size) → wpList P ops Q rest (a.put o.dst v') w') : wpList P ops Q (o :: rest) a w :=
  wpList_step fun K hK => by
    rw [if_pos hgd]
    exact wp_append_any w s x t ho base e i z size bytes ht hi hz hsize hby hzs hsz v n xs hs hown B A m c news hx hr h1 h63 hbytes hbase fun v' w' h2 h3 h4 => hK _ _ (h v' w' h2 h3 h4)
end

theorem has_any (l : Bs) (B : Bool) (hB : decide ((58 : UInt8) ∈ l) = B) (w : World) : Calls Tryz.prog 24 #[.string ⟨l.toArray⟩, .string ⟨#[58]⟩] w fun e w' => e = .returned (.bool B) ∧ w' = w := by
  have h := Tryz.strings_Contains_one ⟨l.toArray⟩ 58 w
  have e : decide (0 ≤ Lib.indexByte l 58) = B := by
    rw [← hB]
    have hge := Lib.indexByte_ge l 58
    by_cases hm : Lib.indexByte l 58 = -1
    · have h1 := Lib.indexByte_none hm
      rw [decide_eq_false (by omega), decide_eq_false]
      intro h2
      obtain ⟨k, hk, e⟩ := List.mem_iff_getElem.1 h2
      exact h1 k (by rw [List.getElem?_eq_getElem hk, e])
    · obtain ⟨o, ho⟩ : ∃ o : Nat, Lib.indexByte l 58 = o := ⟨(Lib.indexByte l 58).toNat, by omega⟩
      obtain ⟨h1, -⟩ := Lib.indexByte_some ho
      rw [decide_eq_true (by omega), decide_eq_true]
      exact List.mem_of_getElem? h1
  refine h.mono ?_
  rintro e' w' ⟨rfl, rfl⟩
  exact ⟨by rw [← e], rfl⟩
theorem repl_any (a : Bs) (r : Bs) (hr : rep a = r) (w : World) (ha : a.length ≤ 20000) (hm : MaxT w) :
    Calls Tryz.prog 18 #[.string ⟨a.toArray⟩, .string ⟨#[10]⟩, .string ⟨#[32, 35, 32, 120, 58, 32, 91, 10, 32, 10]⟩] w fun e w' => e = .returned (.string ⟨r.toArray⟩) ∧ New w w' := by
  obtain ⟨m, hm⟩ := hm
  have hs : (⟨a.toArray⟩ : ByteArray).size = a.length := by show a.toArray.size = _; simp
  have hc := Lib.countB_le ⟨#[10]⟩ (by decide) a.length ⟨a.toArray⟩ (by rw [hs]; exact Nat.le_refl _)
  have hn : (⟨#[32, 35, 32, 120, 58, 32, 91, 10, 32, 10]⟩ : ByteArray).size = 10 := rfl
  have h := Tryz.strings_ReplaceAll ⟨a.toArray⟩ ⟨#[10]⟩ ⟨#[32, 35, 32, 120, 58, 32, 91, 10, 32, 10]⟩ m w (by rw [hs]; omega) hm (by decide) (by rw [hs, hn]; rw [hs] at hc; omega)
  refine h.mono ?_
  rintro e w' ⟨rfl, hb⟩
  exact ⟨by rw [← hr]; rfl, hb⟩

set_option maxRecDepth 100000 in
set_option maxHeartbeats 4000000 in
theorem TextRows_any (T : TypeId) (q : Addr) (a b : Bs) (w : World) (hT : TW w T q) (hal : a.length ≤ 140737488351232) (hbl : b.length ≤ 140737488351232) :
    Calls Tryz.prog 7 #[.string ⟨a.toArray⟩, .string ⟨b.toArray⟩] w fun e w' => e = .returned (.bool true) ∧ New w w' := by
  have HT := Lib.hid hT
  clear hT
  have hwr : IntKind.i64.wrap ((a.length : Int) + (b.length : Int)) = (a.length : Int) + (b.length : Int) := IntWalk.i64_in _ (by omega)
  by_cases h3 : 20000 < a.length + b.length
  · have t1 : (20000 : Int) < (a.length : Int) + (b.length : Int) := by omega
    go_enter Tryz.func7, Tryz.ntmps7
    go_wp2_with (go_at_call 8; (with_reducible refine (awake_any T q _ HT.out).mono ?_); rintro e w1 ⟨rfl, hn1⟩)
    go_ret
    exact ⟨rfl, hn1⟩
  have t1 : ¬ (20000 : Int) < (a.length : Int) + (b.length : Int) := by omega
  obtain ⟨Ca, hCa⟩ : ∃ C, decide ((58 : UInt8) ∈ a) = C := ⟨_, rfl⟩
  obtain ⟨Cb, hCb⟩ : ∃ C, decide ((58 : UInt8) ∈ b) = C := ⟨_, rfl⟩
  have HCa := Lib.hid (fun W => has_any a Ca hCa W)
  have HCb := Lib.hid (fun W => has_any b Cb hCb W)
  rcases Ca with _ | _
  · rcases Cb with _ | _
    · have ca : (58 : UInt8) ∉ a := of_decide_eq_false hCa
      have cb : (58 : UInt8) ∉ b := of_decide_eq_false hCb
      clear hCa hCb
      obtain ⟨v, hp⟩ : ∃ v, parseM a = v := ⟨_, rfl⟩
      obtain ⟨⟨f, fa⟩, xs⟩ := v
      obtain ⟨v, hq⟩ : ∃ v, parseM b = v := ⟨_, rfl⟩
      obtain ⟨⟨g, ga⟩, ys⟩ := v
      obtain ⟨n, hn⟩ : ∃ n, n = xs.length := ⟨_, rfl⟩
      obtain ⟨m, hm⟩ : ∃ m, m = ys.length := ⟨_, rfl⟩
      have HPA : Hid (∀ W, TW W T q → Calls Tryz.prog 9 #[.string ⟨a.toArray⟩] W fun e w' => ∃ A c, e = .returned (.tuple #[.slice A n c, .agg #[.int .i64 f, .int .i64 fa]]) ∧ RI w' A xs ∧ New W w') := Lib.hid (fun W h => parse_l T q a f fa xs n W hn h hp)
      have HPB : Hid (∀ W, TW W T q → Calls Tryz.prog 9 #[.string ⟨b.toArray⟩] W fun e w' => ∃ A c, e = .returned (.tuple #[.slice A m c, .agg #[.int .i64 g, .int .i64 ga]]) ∧ RI w' A ys ∧ New W w') := Lib.hid (fun W h => parse_l T q b g ga ys m W hm h hq)
      have hx := parse_two a f fa xs _ rfl hp
      have hy := parse_two b g ga ys _ rfl hq
      rcases hx with ⟨f1, f2, -, hx4⟩ | ⟨f1, -⟩
      · subst f1
        subst f2
        rcases hy with ⟨g1, g2, -, hy4⟩ | ⟨g1, -⟩
        · subst g1
          subst g2
          have hws : IntKind.i64.wrap ((n : Int) + (m : Int)) = (n : Int) + (m : Int) := IntWalk.i64_in _ (by omega)
          by_cases h4 : 4096 < n + m
          · have t2 : (4096 : Int) < (n : Int) + (m : Int) := by omega
            clear hp hq
            go_enter Tryz.func7, Tryz.ntmps7
            go_wp2_with (first
              | (go_at_call 8; (with_reducible refine (awake_any T q _ HT.out).mono ?_); rintro e w1 ⟨rfl, hn1⟩)
              | (go_at_call 24; (with_reducible refine (HCa.out _).mono ?_); rintro e w1' ⟨rfl, rfl⟩)
              | (go_at_call 24; (with_reducible refine (HCb.out _).mono ?_); rintro e w1' ⟨rfl, rfl⟩)
              | (go_at_call 9; (with_reducible refine (HPA.out _ (HT.out.new hn1)).mono ?_); rintro e w2 ⟨A2, c2, rfl, hr2, hn2⟩; have n2 := new1 w2 (.cells #[.int .i64 0, .int .i64 0] 26); have HR2 := Lib.hid (Reads.new hr2 n2); have HN2 := Lib.hid (New.then (New.then hn1 hn2) n2); have HF2 := Lib.hid (Blk.new w2 26 #[.int .i64 0, .int .i64 0]); clear hr2 hn2 n2)
              | (go_at_call 9; (with_reducible refine (HPB.out _ (HT.out.new HN2.out)).mono ?_); rintro e w3 ⟨A3, c3, rfl, hr3, hn3⟩; have n3 := new1 w3 (.cells #[.int .i64 0, .int .i64 0] 26); have HRX := Lib.hid (Reads.new HR2.out (New.then hn3 n3)); have HRY := Lib.hid (Reads.new hr3 n3); have HN3 := Lib.hid (New.then HN2.out (New.then hn3 n3)); obtain ⟨p0, p1⟩ := two_cells (HF2.out.below (New.then hn3 n3) HF2.out.lt); obtain ⟨q0, q1⟩ := cells2 (w := w3) (x := .int .i64 0) (y := .int .i64 0) rfl; clear hr3 hn3 n3))
            go_ret
            exact ⟨rfl, HN3.out⟩
          · have t2 : ¬ (4096 : Int) < (n : Int) + (m : Int) := by omega
            have hz := parse_rows hp hq ca cb (by omega) (by omega)
            obtain ⟨r, hr⟩ : ∃ r, rep a = r := ⟨_, rfl⟩
            have HRP : Hid (∀ W, TW W T q → Calls Tryz.prog 18 #[.string ⟨a.toArray⟩, .string ⟨#[10]⟩, .string ⟨#[32, 35, 32, 120, 58, 32, 91, 10, 32, 10]⟩] W fun e w' => e = .returned (.string ⟨r.toArray⟩) ∧ New W w') := Lib.hid (fun W h => repl_any a r hr W (by omega) h.m)
            unfold rowsB at hz
            rw [hr] at hz
            have HPZ : Hid (∀ W (S : ByteArray), S = ⟨([35, 32, 102, 105, 114, 115, 116, 10, 9] ++ r ++ [13, 10, 10] ++ b ++ [10, 35] : Bs).toArray⟩ → TW W T q → Calls Tryz.prog 9 #[.string S] W fun e w' => ∃ A c, e = .returned (.tuple #[.slice A (n + m) c, .agg #[.int .i64 0, .int .i64 0]]) ∧ RI w' A (xs ++ ys) ∧ New W w') := Lib.hid (fun W S hS h => by subst hS; exact parse_l T q _ 0 0 (xs ++ ys) (n + m) W (by rw [hn, hm]; simp) h hz)
            have HS : Hid (({ data := #[35, 32, 102, 105, 114, 115, 116, 10, 9] } : ByteArray) ++ { data := List.toArray r } ++ { data := #[13, 10, 10] } ++ { data := List.toArray b } ++ { data := #[10, 35] } = ⟨([35, 32, 102, 105, 114, 115, 116, 10, 9] ++ r ++ [13, 10, 10] ++ b ++ [10, 35] : Bs).toArray⟩) := Lib.hid (by apply ByteArray.ext; simp)
            have hrl : r.length ≤ 200000 := by have := rep_len _ a (Nat.lt_succ_self _); rw [hr] at this; omega
            have HN := Lib.hid hn
            have HM := Lib.hid hm
            clear hp hq hz hr hn hm
            obtain ⟨i0, hi, hz0, hz1, hz2⟩ := info_parts ins_info
            go_enter Tryz.func7, Tryz.ntmps7
            go_wp2_with (first
              | (go_at_call 8; (with_reducible refine (awake_any T q _ HT.out).mono ?_); rintro e w1 ⟨rfl, hn1⟩)
              | (go_at_call 24; (with_reducible refine (HCa.out _).mono ?_); rintro e w1' ⟨rfl, rfl⟩)
              | (go_at_call 24; (with_reducible refine (HCb.out _).mono ?_); rintro e w1' ⟨rfl, rfl⟩)
              | (go_at_call 9; (with_reducible refine (HPA.out _ (HT.out.new hn1)).mono ?_); rintro e w2 ⟨A2, c2, rfl, hr2, hn2⟩; have n2 := new1 w2 (.cells #[.int .i64 0, .int .i64 0] 26); have HR2 := Lib.hid (Reads.new hr2 n2); have HN2 := Lib.hid (New.then (New.then hn1 hn2) n2); have HF2 := Lib.hid (Blk.new w2 26 #[.int .i64 0, .int .i64 0]); clear hr2 hn2 n2)
              | (go_at_call 9; (with_reducible refine (HPB.out _ (HT.out.new HN2.out)).mono ?_); rintro e w3 ⟨A3, c3, rfl, hr3, hn3⟩; have n3 := new1 w3 (.cells #[.int .i64 0, .int .i64 0] 26); have HRX := Lib.hid (Reads.new HR2.out (New.then hn3 n3)); have HRY := Lib.hid (Reads.new hr3 n3); have HN3 := Lib.hid (New.then HN2.out (New.then hn3 n3)); obtain ⟨p0, p1⟩ := two_cells (HF2.out.below (New.then hn3 n3) HF2.out.lt); obtain ⟨q0, q1⟩ := cells2 (w := w3) (x := .int .i64 0) (y := .int .i64 0) rfl; clear hr3 hn3 n3)
              | (go_at_call 18; (with_reducible refine (HRP.out _ (HT.out.new HN3.out)).mono ?_); rintro e w4 ⟨rfl, hn4⟩; have HN4 := Lib.hid (New.then HN3.out hn4); have HX4 := Lib.hid (Reads.new HRX.out hn4); have HY4 := Lib.hid (Reads.new HRY.out hn4); clear hn4)
              | (go_at_call 9; (with_reducible refine (HPZ.out _ _ HS.out (HT.out.new HN4.out)).mono ?_); rintro e w5 ⟨A5, c5, rfl, hr5, hn5⟩; have n5 := new1 w5 (.cells #[.int .i64 0, .int .i64 0] 26); have HX5 := Lib.hid (Reads.new HX4.out (New.then hn5 n5)); have HY5 := Lib.hid (Reads.new HY4.out (New.then hn5 n5)); have HZ5 := Lib.hid (Reads.new hr5 n5); have HN5 := Lib.hid (New.then HN4.out (New.then hn5 n5)); obtain ⟨z0, z1⟩ := cells2 (w := w5) (x := .int .i64 0) (y := .int .i64 0) rfl; have hE := World.ownsRow_made (e := 47) (base := w5.heap.size + 1) (size := 8) (w5.alloc (.cells #[.int .i64 0, .int .i64 0] 26)) #[] 0 (by rw [World.size_alloc]; exact Nat.le_refl _) (by decide) rfl; rw [World.size_alloc] at hE; have HE := Lib.hid hE; have HX6 : Hid (Reads _ _ 8 A2 n (vi xs)) := Lib.hid (by have h := Reads.new HX5.out (new1 _ (.cells #[] 47)); rw [← HN.out] at h; exact h); clear hr5 hn5 n5 hE p0 p1 q0 q1)
              | (at_builtin; refine wpList_append_g (by first | rfl | (simp [Region.wanted, yielded, go_sem]; done)) (.tmp 69) (.tmp 70) 23 rfl (w5.heap.size + 1) 47 i0 _ 8 56 Tryz.underlying23 hi hz0 hz1 hz2 rfl (by omega) (.slice (some ⟨w5.heap.size + 1, 0, none⟩) 0 0) 0 [] rfl HE.out _ A2 n c2 (vi xs) rfl HX6.out (vi_one xs) (by unfold maxLen; omega) (by omega) (by simp) ?_; intro v6 w6 hown6 hg6 hat6; rw [Nat.zero_add, List.nil_append] at hown6; have n6 : New (w5.alloc (.cells #[.int .i64 0, .int .i64 0] 26)) w6 := (new1 (w5.alloc (.cells #[.int .i64 0, .int .i64 0] 26)) (.cells #[] 47)).grown hg6 (by simp) (fun j hj => by have hj2 : w5.heap.size + 1 = j := Option.some.inj hj; rw [World.size_alloc]; omega); have HN6 := Lib.hid n6; have HO6 := Lib.hid hown6; have HY6 : Hid (Reads w6 w6.heap.size 8 A3 m (vi ys)) := Lib.hid (by have h := Reads.new HY5.out n6; rw [← HM.out] at h; exact h); clear hown6 hg6 hat6 n6 z0 z1)
              | (at_builtin; refine wpList_append_g (by first | rfl | (simp [Region.wanted, yielded, go_sem]; done)) (.tmp 71) (.tmp 72) 23 rfl (w5.heap.size + 1) 47 i0 _ 8 56 Tryz.underlying23 hi hz0 hz1 hz2 rfl (by omega) _ n (vi xs) rfl HO6.out _ A3 m c3 (vi ys) rfl HY6.out (vi_one ys) (by unfold maxLen; omega) (by omega) (by have := HN6.out.size; rw [World.size_alloc] at this; exact this) ?_; intro v7 w7 hown7 hg7 hat7; rw [← vi_append] at hown7; have n7 : New (w5.alloc (.cells #[.int .i64 0, .int .i64 0] 26)) w7 := HN6.out.grown hg7 HN6.out.size (fun j hj => by rw [World.size_alloc]; exact (HO6.out.lt j hj).1); have HN7 := Lib.hid n7; obtain ⟨A7, c7, rfl, -, -, hr7⟩ := own_len hown7; have HR7 : Hid (RI w7 A7 (xs ++ ys)) := Lib.hid (by rw [HN.out, HM.out, ← List.length_append] at hr7; exact hr7); have HR5 : Hid (RI w7 A5 (xs ++ ys)) := Lib.hid (Reads.new HZ5.out n7); clear hown7 hg7 hat7 n7 hr7)
              | (go_at_call 22; (with_reducible refine (sameIns_any A5 A7 (n + m) c5 c7 (xs ++ ys) w7 (by rw [HN.out, HM.out]; simp) (by omega) HR5.out HR7.out).mono ?_); rintro e w8 ⟨rfl, hn8⟩; have HN8 := Lib.hid (New.then (New.then HN5.out HN7.out) hn8); clear hn8))
            go_ret
            exact ⟨rfl, HN8.out⟩
        · have u4 : ¬ g = 0 := g1
          have u5 : (g == 0) = false := by simp [g1]
          have u6 : decide (g = 0) = false := by simp [g1]
          clear hp hq
          go_enter Tryz.func7, Tryz.ntmps7
          go_wp2_with (first
            | (go_at_call 8; (with_reducible refine (awake_any T q _ HT.out).mono ?_); rintro e w1 ⟨rfl, hn1⟩)
            | (go_at_call 24; (with_reducible refine (HCa.out _).mono ?_); rintro e w1' ⟨rfl, rfl⟩)
            | (go_at_call 24; (with_reducible refine (HCb.out _).mono ?_); rintro e w1' ⟨rfl, rfl⟩)
            | (go_at_call 9; (with_reducible refine (HPA.out _ (HT.out.new hn1)).mono ?_); rintro e w2 ⟨A2, c2, rfl, hr2, hn2⟩; have n2 := new1 w2 (.cells #[.int .i64 0, .int .i64 0] 26); have HR2 := Lib.hid (Reads.new hr2 n2); have HN2 := Lib.hid (New.then (New.then hn1 hn2) n2); have HF2 := Lib.hid (Blk.new w2 26 #[.int .i64 0, .int .i64 0]); clear hr2 hn2 n2)
            | (go_at_call 9; (with_reducible refine (HPB.out _ (HT.out.new HN2.out)).mono ?_); rintro e w3 ⟨A3, c3, rfl, hr3, hn3⟩; have n3 := new1 w3 (.cells #[.int .i64 g, .int .i64 ga] 26); have HRX := Lib.hid (Reads.new HR2.out (New.then hn3 n3)); have HRY := Lib.hid (Reads.new hr3 n3); have HN3 := Lib.hid (New.then HN2.out (New.then hn3 n3)); obtain ⟨p0, p1⟩ := two_cells (HF2.out.below (New.then hn3 n3) HF2.out.lt); obtain ⟨q0, q1⟩ := cells2 (w := w3) (x := .int .i64 g) (y := .int .i64 ga) rfl; clear hr3 hn3 n3))
          go_ret
          exact ⟨rfl, HN3.out⟩
      · have u1 : ¬ f = 0 := f1
        have u2 : (f == 0) = false := by simp [f1]
        have u3 : decide (f = 0) = false := by simp [f1]
        clear hp hq hy
        go_enter Tryz.func7, Tryz.ntmps7
        go_wp2_with (first
          | (go_at_call 8; (with_reducible refine (awake_any T q _ HT.out).mono ?_); rintro e w1 ⟨rfl, hn1⟩)
          | (go_at_call 24; (with_reducible refine (HCa.out _).mono ?_); rintro e w1' ⟨rfl, rfl⟩)
          | (go_at_call 24; (with_reducible refine (HCb.out _).mono ?_); rintro e w1' ⟨rfl, rfl⟩)
          | (go_at_call 9; (with_reducible refine (HPA.out _ (HT.out.new hn1)).mono ?_); rintro e w2 ⟨A2, c2, rfl, hr2, hn2⟩; have n2 := new1 w2 (.cells #[.int .i64 f, .int .i64 fa] 26); have HR2 := Lib.hid (Reads.new hr2 n2); have HN2 := Lib.hid (New.then (New.then hn1 hn2) n2); have HF2 := Lib.hid (Blk.new w2 26 #[.int .i64 f, .int .i64 fa]); clear hr2 hn2 n2)
          | (go_at_call 9; (with_reducible refine (HPB.out _ (HT.out.new HN2.out)).mono ?_); rintro e w3 ⟨A3, c3, rfl, hr3, hn3⟩; have n3 := new1 w3 (.cells #[.int .i64 g, .int .i64 ga] 26); have HRX := Lib.hid (Reads.new HR2.out (New.then hn3 n3)); have HRY := Lib.hid (Reads.new hr3 n3); have HN3 := Lib.hid (New.then HN2.out (New.then hn3 n3)); obtain ⟨p0, p1⟩ := two_cells (HF2.out.below (New.then hn3 n3) HF2.out.lt); obtain ⟨q0, q1⟩ := cells2 (w := w3) (x := .int .i64 g) (y := .int .i64 ga) rfl; clear hr3 hn3 n3))
        go_ret
        exact ⟨rfl, HN3.out⟩
    · clear hCa hCb
      go_enter Tryz.func7, Tryz.ntmps7
      go_wp2_with (first | (go_at_call 8; (with_reducible refine (awake_any T q _ HT.out).mono ?_); rintro e w1 ⟨rfl, hn1⟩) | (go_at_call 24; (with_reducible refine (HCa.out _).mono ?_); rintro e w1' ⟨rfl, rfl⟩) | (go_at_call 24; (with_reducible refine (HCb.out _).mono ?_); rintro e w1' ⟨rfl, rfl⟩))
      go_ret
      exact ⟨rfl, hn1⟩
  · clear hCa hCb
    go_enter Tryz.func7, Tryz.ntmps7
    go_wp2_with (first | (go_at_call 8; (with_reducible refine (awake_any T q _ HT.out).mono ?_); rintro e w1 ⟨rfl, hn1⟩) | (go_at_call 24; (with_reducible refine (HCa.out _).mono ?_); rintro e w1' ⟨rfl, rfl⟩))
    go_ret
    exact ⟨rfl, hn1⟩
end Go.Proofs.YtcebfihjcglnoaaGreatDoor.txt
