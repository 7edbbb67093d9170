/-
  WireReads, walked.
-/
import Derived.Test.YtpkiopijfhkagaaGreatDoorReadU
import Derived.Test.YtpkiopijfhkagaaGreatDoorAwake
namespace Go.Proofs.YtpkiopijfhkagaaGreatDoor.laws
open Go.RowKit Go.Proofs.YtpkiopijfhkagaaGreatDoor.mem Go.Proofs.YtpkiopijfhkagaaGreatDoor.kit Go.Proofs.YtpkiopijfhkagaaGreatDoor.wire Go.Proofs.YtpkiopijfhkagaaGreatDoor.rd
set_option linter.unusedVariables false

theorem apart_told {w0 w : World} {rs : List (Value × List UInt8)} {n : Nat} (A : Option Addr) (C : Nat) (h : RSt w0 rs w) (hn : n = rs.length) (hK : n ≤ 1000000) (hl : ∀ p ∈ rs, p.2.length ≤ 1099511627776) (hA : Reads w w.heap.size 1 A n (rs.map Prod.fst)) :
    Calls Tryz.prog 19 #[.slice A n C] w fun e w' => e = .returned (.bool true) ∧ Below w0.heap.size w w' := by
  have e : n = (rs.map fun p => p.2.length).length := by simp [hn]
  have hE := h.each
  have hlen : ∀ k (hk : k < (rs.map fun p => p.2.length).length), (rs.map fun p => p.2.length)[k] ≤ 1099511627776 := fun k hk => by
    simp only [List.getElem_map]
    exact hl _ (List.getElem_mem _)
  rw [e] at hA hK ⊢
  refine (ApartBytes_any w w0.heap.size A C _ _ h.new.size hK hlen hE hA).mono fun e w' hh => ⟨hh.1, hh.2.below h.new.size fun k hk hS => ?_⟩
  obtain ⟨j, v, hv, hg⟩ := hS
  rw [List.getElem?_map] at hv
  obtain ⟨p, hp, rfl⟩ := Option.map_eq_some_iff.1 hv
  obtain ⟨hj, rfl⟩ := List.getElem?_eq_some_iff.1 hp
  exact ((h.row j hj).2.lt k hg).1
theorem same_len (A B : Option Addr) (n m c d : Nat) (l : List UInt8) (w : World) (hn : n = l.length) (hm : m = l.length) (hl : l.length ≤ 1099511627776) (hA : Reads w w.heap.size 1 A n (vb l)) (hB : Reads w w.heap.size 1 B m (vb l)) :
    Calls Tryz.prog 16 #[.slice A n c, .slice B m d] w fun e w' => e = .returned (.bool true) ∧ New w w' := by
  subst hn
  subst hm
  exact same_any A B c d l w hl hA hB
theorem lent_n (A : Option Addr) (n c : Nat) (l : List UInt8) (w : World) (hn : n = l.length) (hl : l.length ≤ 1099511627776) (hA : Reads w w.heap.size 1 A n (vb l)) :
    Calls Tryz.prog 9 #[.slice A n c] w fun e w' => (e = .returned (.slice (some ⟨w.heap.size, 0, none⟩) n (n + 12)) ∧ Blk w' w.heap.size 5 (vb (l ++ marks 1 12)).toArray) ∧ New w w' := by
  subst hn
  exact lent_any A c l w hl hA
theorem kept_n (g : Nat) (B : Option Addr) (n d : Nat) (l : List UInt8) (w : World) (hn : n = l.length) (hl : l.length ≤ 1099511627776) (hg : Blk w g 5 (vb (l ++ marks 1 12)).toArray) (hB : Reads w w.heap.size 1 B n (vb l)) :
    Calls Tryz.prog 17 #[.slice (some ⟨g, 0, none⟩) n (n + 12), .slice B n d] w fun e w' => e = .returned (.bool true) ∧ New w w' := by
  subst hn
  exact kept_any g B d l w hl hg hB
theorem slice_info : (Tryz.prog.info? 23).map (fun i => (i.zero, i.size, i.bytes)) = some (some (.slice none 0 0), 1, 24) := by kernel_rfl
theorem told_one (w : World) (t : TypeId) (u : Value) : Reads (w.alloc (.cells #[u] t)) (w.alloc (.cells #[u] t)).heap.size 1 (some ⟨w.heap.size, 0, none⟩) 1 [u] := reads_new w t u

/-- A law's state while it goes on. -/
structure LR (W : World) (g h : Nat) (k : Nat) (v : Value) (w : World) : Prop where
  st : ∃ s rs, LS W g h s s v (rs.map Prod.fst) rs w ∧ rs.length ≤ k

/-- One more told. -/
theorem LS.tell {W w w' : World} {g h : Nat} {s1 s2 : Lft} {v v' : Value} {rs : List (Value × List UInt8)} {x : Value × List UInt8} {o : Obj} (k : LS W g h s1 s2 v (rs.map Prod.fst) (rs ++ [x]) w)
    (hown : w'.ownsRow W.heap.size 23 1 v' ((rs.map Prod.fst).length + 1) (rs.map Prod.fst ++ [x.1])) (hg : (w.alloc o).grownBy w' v.ownBlock) : LS W g h s1 s2 v' ((rs ++ [x]).map Prod.fst) (rs ++ [x]) w' := by
  have ka := k.keep (alloc_new w o)
  have hch := Ch.of_grown hg
  have hne : ∀ (j : Nat) (t : TypeId) (cs : Array Value), Blk (w.alloc o) j t cs → 23 ≠ t → ¬ some j = v.ownBlock := fun j t cs hb ht e => own_blk_ne ka.told hb ht e.symm
  obtain ⟨cg, hbg⟩ := ka.rg.blk
  obtain ⟨ch, hbh⟩ := ka.dh.blk
  have hnew : New W w' := ka.rows.new.grown hg ka.rows.new.size (fun j hj => (ka.told.lt j hj).1)
  have rowk : ∀ q (hq : q < (rs ++ [x]).length), w'.ownsRow W.heap.size 5 1 (rs ++ [x])[q].1 (rs ++ [x])[q].2.length (vb (rs ++ [x])[q].2) := fun q hq => by
    have h1 := (ka.rows.row q hq).2
    refine own_ch h1 hch (fun j hj e => ?_)
    obtain ⟨cs, hcs⟩ : ∃ cs, Blk (w.alloc o) j 5 cs := by
      obtain ⟨⟨A, c, e1⟩, h2⟩ := ka.rows.row q hq
      rw [e1] at h2 hj
      obtain ⟨-, -, ht⟩ := own_typed h2
      cases A with
      | none => simp [Value.ownBlock] at hj
      | some ad =>
        have : ad.block = j := by simpa [Value.ownBlock] using hj
        subst this
        exact ht ad rfl
    exact hne j _ cs hcs (by decide) e
  refine ⟨?_, ?_, ⟨hnew, fun q hq => ⟨(ka.rows.row q hq).1, rowk q hq⟩, ka.rows.apart⟩, ?_, ka.hg, ka.hh, ka.ne, ka.lens⟩
  · cases s1 with
    | none => exact Blk.ch ka.rg hch (hne _ _ _ ka.rg (by decide))
    | some L =>
      obtain ⟨hl, A, c, hb, h1, h2, hr, ht⟩ := ka.rg
      have hnn : ∀ ad, A = some ad → ¬ some ad.block = v.ownBlock := fun ad e => by obtain ⟨cs', hcs⟩ := ht ad e; exact hne _ _ _ hcs (by decide)
      exact ⟨hl, A, c, hb.ch hch (hne _ _ _ hb (by decide)), h1, h2, hr.ch hch hnn, fun ad e => by obtain ⟨cs', hcs⟩ := ht ad e; exact ⟨cs', hcs.ch hch (hnn ad e)⟩⟩
  · have go : ∀ (l : List UInt8) (a : Nat) (b : Bool), rread.DR (w.alloc o) h l a b → rread.DR w' h l a b := fun l a b hD => by
      obtain ⟨h0, A, c, hb, hr, h1, ht⟩ := hD
      have hnn : ∀ ad, A = some ad → ¬ some ad.block = v.ownBlock := fun ad e => by obtain ⟨cs', hcs⟩ := ht ad e; exact hne _ _ _ hcs (by decide)
      exact ⟨h0, A, c, hb.ch hch (hne _ _ _ hb (by decide)), hr.ch hch hnn, h1, fun ad e => by obtain ⟨cs', hcs⟩ := ht ad e; exact ⟨cs', hcs.ch hch (hnn ad e)⟩⟩
    have kd := ka.dh
    cases s2 with
    | none => obtain ⟨l, a, hl, hD⟩ := kd; exact ⟨l, a, hl, go _ _ _ hD⟩
    | some L => obtain ⟨l, a, hl, ha, e, hD⟩ := kd; exact ⟨l, a, hl, ha, e, go _ _ _ hD⟩
  · have e1 : (rs ++ [x]).map Prod.fst = rs.map Prod.fst ++ [x.1] := by simp
    have e2 : ((rs ++ [x]).map Prod.fst).length = (rs.map Prod.fst).length + 1 := by simp
    rw [e2, e1]
    exact hown

theorem told_bnd {rs : List (Value × List UInt8)} {k : Nat} (h : rs.length ≤ k) (hk : k < 300) : (rs.map Prod.fst).length + 1 ≤ maxLen ∧ ((rs.map Prod.fst).length + 1) * 24 ≤ 140737488355328 := by
  rw [List.length_map]
  unfold maxLen
  omega
theorem one_row {A : Option Addr} {n c : Nat} : ∀ u ∈ [Value.slice A n c], u.oneCell' = true := by
  intro u hu
  rw [List.mem_singleton] at hu
  subst hu
  rfl
theorem six_blk6 {w : World} {g : Nat} {t : TypeId} {a b c d e f : Value} (h : Blk w g t #[a, b, c, d, e, f]) : w.cell? ⟨g, 0, none⟩ = some a ∧ w.cell? ⟨g, 1, none⟩ = some b ∧ w.cell? ⟨g, 2, none⟩ = some c ∧ w.cell? ⟨g, 3, none⟩ = some d ∧ w.cell? ⟨g, 4, none⟩ = some e ∧ w.cell? ⟨g, 5, none⟩ = some f :=
  ⟨h.cell 0, h.cell 1, h.cell 2, h.cell 3, h.cell 4, h.cell 5⟩
theorem last_n {W w : World} {g h : Nat} {s1 s2 : Lft} {v : Value} {vs : List Value} {rs : List (Value × List UInt8)} {A : Option Addr} {n c : Nat} {l : List UInt8} (k : LS W g h s1 s2 v vs (rs ++ [(.slice A n c, l)]) w) (hn : n = l.length) : Reads w w.heap.size 1 A n (vb l) ∧ l.length ≤ 1099511627776 := by
  subst hn
  exact ⟨k.last, k.lens (.slice A l.length c, l) (by simp)⟩
theorem same_entry_n (term kind version server : Int) (good : Bool) (A B : Option Addr) (n c d : Nat) (l : List UInt8) (w : World) (hn : n = l.length) (hl : l.length ≤ 1099511627776) (hA : Reads w w.heap.size 1 A n (vb l)) (hB : Reads w w.heap.size 1 B n (vb l)) :
    Calls Tryz.prog 29 #[.agg #[.int .i64 term, .int .u8 kind, .int .i64 version, .int .i64 server, .bool good, .slice A n c], .agg #[.int .i64 term, .int .u8 kind, .int .i64 version, .int .i64 server, .bool good, .slice B n d]] w fun e w' => e = .returned (.bool true) ∧ New w w' := by
  subst hn
  exact same_entry term kind version server good A B c d l w hl hA hB

set_option maxRecDepth 100000 in
set_option maxHeartbeats 4000000 in
theorem WireReads_any (T : TypeId) (q : Addr) (A0 A1 : Option Addr) (n c0 m c1 : Nat) (l : List UInt8) (zs : List Int) (w : World) (hE : ErrAt w T q) (hn : n = l.length) (hm : m = zs.length) (hnl : n ≤ maxLen) (hml : m ≤ maxLen)
    (hA : Reads w w.heap.size 1 A0 n (vb l)) (hB : Reads w w.heap.size 1 A1 m (zs.map (Value.int .i64))) (hz : ∀ i (h : i < zs.length), -9223372036854775808 ≤ zs[i] ∧ zs[i] ≤ 9223372036854775807) :
    Calls Tryz.prog 6 #[.slice A0 n c0, .slice A1 m c1] w fun e w' => e = .returned (.bool true) ∧ New w w' := by
  have HE := Lib.hid hE
  have HN := Lib.hid hn
  have HM := Lib.hid hm
  have HA := Lib.hid hA
  have HB := Lib.hid hB
  have HZ := Lib.hid hz
  unfold maxLen at hnl hml
  clear hE hn hm hA hB hz
  by_cases h2 : 20000 < n
  · have t1 : (20000 : Int) < (n : Int) := by omega
    go_enter Tryz.func6, Tryz.ntmps6
    go_wp2_with (go_at_call 8; refine (awake_any T q _ HE.out).mono ?_; rintro e w1 ⟨rfl, hn1⟩)
    go_ret
    exact ⟨rfl, hn1⟩
  · have t1 : ¬ (20000 : Int) < (n : Int) := by omega
    have n2 : n ≤ 20000 := by omega
    obtain ⟨i0, hi, hz0, hz1, hz2⟩ := info_parts slice_info
    go_enter Tryz.func6, Tryz.ntmps6
    go_wp2_with (go_at_call 9; refine (lent_n A0 n c0 l _ HN.out (by have := HN.out; omega) HA.out).mono ?_; rintro e w1 ⟨⟨rfl, hb1⟩, hn1⟩)
    have HB1 := Lib.hid hb1
    have HN1 := Lib.hid hn1
    clear hb1 hn1
    go_wp2_with (go_at_call 20; refine (new_own _ n _ l _ HN.out (by have := HN.out; omega) (lent_reads HB1.out)).mono ?_; rintro e w2 ⟨g, rfl, hg, hG, hn2⟩)
    have HG := Lib.hid hG
    have HN2 := Lib.hid hn2
    have HGE := Lib.hid hg
    have HNN2 := Lib.hid (New.then HN1.out hn2)
    clear hG hn2 hg
    go_wp2_with (go_at_call 21; refine (rnew_own _ n _ l _ HN.out (by have := HN.out; omega) (HN.out ▸ HA.out.new HNN2.out)).mono ?_; rintro e w3 ⟨h, rfl, hh, hD, hn3⟩)
    have HD := Lib.hid hD
    have HHE := Lib.hid hh
    have HN3 := Lib.hid (New.then HNN2.out hn3)
    have HG3 := Lib.hid (HG.out.new hn3)
    have HB3 := Lib.hid ((HB1.out.below HN2.out HB1.out.lt).below hn3 ((HB1.out.below HN2.out HB1.out.lt)).lt)
    have hlt3 := Blk.lt HB1.out
    have hs2 := HN2.out.size
    have HNE : Hid (g ≠ h) := Lib.hid (by obtain ⟨A, c, hb, _⟩ := HG.out; have := hb.lt; have := HHE.out; omega)
    have HL1 := Lib.hid hlt3
    clear hD hh hn3 hlt3 hs2
    go_wp2_with (first
      | (go_at_call 17; refine (kept_n _ A0 n c0 l _ HN.out (by have := HN.out; omega) HB3.out (HA.out.new HN3.out)).mono ?_; rintro e w4 ⟨rfl, hn4⟩; have HB4 := Lib.hid (HB3.out.below hn4 HB3.out.lt); have HG4 := Lib.hid (HG3.out.new hn4); have HD4 := Lib.hid (HD.out.new hn4); have HN4 := Lib.hid (New.then HN3.out hn4); clear hn4)
      | (go_at_call 22; refine (over_any _ n _ _ (by omega) (by rw [List.size_toArray, vb_length, List.length_append, HN.out]; rfl) HB4.out).mono ?_; rintro e w5 ⟨rfl, hch5⟩))
    have hN5 : New w w5 := ((Ch.of_new (S := fun j => j = w.heap.size) HN4.out).then hch5 (fun i hi e => e)).below (Nat.le_refl _) (fun k hk e => by have e' : k = w.heap.size := e; omega)
    have hlr := HL1.out
    have hs1 := HN1.out.size
    have hs2 := HN2.out.size
    have hR5 : RS w5 g (some l) := ⟨by have := HN.out; omega, HG4.out.over hch5 (by omega) (by have := HGE.out; omega)⟩
    have hD5 : DS w5 h (some l) := ⟨l, 0, by have := HN.out; omega, Nat.zero_le _, rfl, HD4.out.over hch5 (by omega) (by have := HHE.out; omega)⟩
    have hL5 : LS w g h (some l) (some l) (.slice none 0 0) [] [] w5 := ⟨hR5, hD5, ⟨hN5, fun k h => absurd h (by simp), fun j k _ h => absurd h (by simp)⟩, World.ownsRow_nil .., by have := HGE.out; omega, by have := HHE.out; omega, HNE.out, fun p hp => absurd hp (by simp)⟩
    have HL5 := Lib.hid hL5
    clear hL5 hR5 hD5 hN5 hch5 hlr hs1 hs2
    go_loopw [8, 9] (fun v i wr => ∃ (k : Nat) (s : Lft) (rs : List (Value × List UInt8)), k ≤ m ∧ k ≤ 300 ∧ i = .int .i64 k ∧ LS w g h s s v (rs.map Prod.fst) rs wr ∧ rs.length ≤ k) (fun _ i _ => 300 - (intOf i).toNat)
    case atStart => exact ⟨0, some l, [], Nat.zero_le _, Nat.zero_le _, rfl, HL5.out, Nat.zero_le _⟩
    case round =>
      clear HB1 HN1 HG HN2 HGE HNN2 HD HHE HN3 HG3 HB3 HL1 HB4 HG4 HD4 HN4 HL5
      obtain ⟨k, s, rs, hkm, hk3, rfl, hl, hrs⟩ := hrel
      have HL := Lib.hid hl
      have HRS := Lib.hid hrs
      clear hl hrs
      by_cases hlt : k < m ∧ k < 300
      · obtain ⟨hlm, hl3⟩ := hlt
        have hlz : k < zs.length := by have := HM.out; omega
        have hz' := HZ.out k hlz
        have hB2 := HB.out
        rw [HM.out] at hB2
        obtain ⟨a, u, hA1, ha, hx, hc⟩ := hB2.at_ (by simpa using hlz)
        subst hA1
        rw [List.getElem?_map, List.getElem?_eq_getElem hlz, Option.map_some] at hx
        injection hx with hx
        subst hx
        have r1 := (HL.out.rows.new.cell (p := a.add k) (by rw [block_of_add]; exact ha)).trans hc
        obtain ⟨z, hzz⟩ : ∃ z, zs[k] = z := ⟨_, rfl⟩
        rw [hzz] at r1 hz'
        obtain ⟨z0, z1⟩ := hz'
        clear hc ha hzz
        have h3 : z % 3 = 0 ∨ z % 3 = 1 ∨ z % 3 = 2 := by omega
        rcases h3 with h3 | h3 | h3
        · have H3 := Lib.hid h3
          clear h3
          obtain ⟨x, hx⟩ : ∃ x, numS s = x := ⟨_, rfl⟩
          obtain ⟨b, hb⟩ : ∃ b, badS (aftN s) = b := ⟨_, rfl⟩
          obtain ⟨d, hd⟩ : ∃ d, doneS (aftN s) = d := ⟨_, rfl⟩
          have HX := Lib.hid hx
          have HBS := Lib.hid hb
          have HDS := Lib.hid hd
          clear hx hb hd
          go_wp2_with (first
            | (go_at_call 23; refine (pick_any _ _ _ (by omega) (by omega) z0 z1).mono ?_; rintro e w6 ⟨rfl, rfl⟩; rw [H3.out])
            | (go_at_call 24; refine (HL.out.rnum T q HE.out x HX.out).mono ?_; rintro e w7 ⟨rfl, hl7⟩)
            | (go_at_call 25; refine (hl7.dnum x HX.out).mono ?_; rintro e w8 ⟨rfl, hl8⟩; have HL8 := Lib.hid hl8; clear hl7 hl8)
            | (go_at_call 31; refine (HL8.out.rbad b HBS.out).mono ?_; rintro e w9 ⟨rfl, rfl⟩)
            | (go_at_call 32; refine (HL8.out.dbad b HBS.out).mono ?_; rintro e w9 ⟨rfl, rfl⟩)
            | (go_at_call 33; refine (HL8.out.rdone d HDS.out).mono ?_; rintro e w9 ⟨rfl, rfl⟩)
            | (go_at_call 34; refine (HL8.out.ddone d HDS.out).mono ?_; rintro e w9 ⟨rfl, hl9⟩; have HL9 := Lib.hid hl9; clear hl9))
          go_roundw
          case rel => exact ⟨k + 1, _, rs, by omega, by omega, by go_num, HL9.out, by have := HRS.out; omega⟩
          case measure => simp [intOf]; omega
        · have H3 := Lib.hid h3
          clear h3
          obtain ⟨lb, hlb⟩ : ∃ lb, valS s = lb := ⟨_, rfl⟩
          obtain ⟨nb, hnb⟩ : ∃ nb, nb = lb.length := ⟨_, rfl⟩
          have HLB := Lib.hid hlb
          have HNB := Lib.hid hnb
          clear hlb hnb
          obtain ⟨b, hb⟩ : ∃ b, badS (aftB s) = b := ⟨_, rfl⟩
          obtain ⟨d, hd⟩ : ∃ d, doneS (aftB s) = d := ⟨_, rfl⟩
          have HBS := Lib.hid hb
          have HDS := Lib.hid hd
          clear hb hd
          go_wp2_with (first
            | (go_at_call 23; refine (pick_any _ _ _ (by omega) (by omega) z0 z1).mono ?_; rintro e w6 ⟨rfl, rfl⟩; rw [H3.out])
            | (go_at_call 26; refine (HL.out.rbytes T q HE.out nb lb HLB.out HNB.out).mono ?_; rintro e w7 ⟨A7, c7, rfl, hl7⟩; have HL7 := Lib.hid hl7; clear hl7)
            | (go_at_call 27; refine (HL7.out.dbytes nb lb HLB.out HNB.out).mono ?_; rintro e w8 ⟨A8, c8, rfl, hr8, hl8⟩; have HR8 := Lib.hid hr8; have HL8 := Lib.hid hl8; clear hr8 hl8)
            | (go_at_call 16; refine (same_len A7 A8 nb nb c7 c8 lb _ HNB.out HNB.out (last_n HL8.out HNB.out).2 (last_n HL8.out HNB.out).1 HR8.out).mono ?_; rintro e w9 ⟨rfl, hn9⟩; have HL9 := Lib.hid (HL8.out.keep hn9); clear hn9)
            | (at_builtin; refine wpList_append_any _ rfl (.tmp 71) (.tmp 73) 39 rfl w.heap.size 23 i0 _ 1 24 Tryz.underlying39 hi hz0 hz1 hz2 rfl (by omega) _ _ _ rfl (HL9.out.told.alloc _) _ _ 1 1 _ rfl (told_one w9 _ _) one_row (told_bnd HRS.out hl3).1 (told_bnd HRS.out hl3).2 (Nat.le_trans HL9.out.rows.new.size (alloc_new _ _).size) ?_; intro v10 w10 hown10 hg10 _; have HL10 := Lib.hid (LS.tell HL9.out hown10 hg10); clear hown10 hg10)
            | (go_at_call 31; refine (HL10.out.rbad b HBS.out).mono ?_; rintro e w19 ⟨rfl, rfl⟩)
            | (go_at_call 32; refine (HL10.out.dbad b HBS.out).mono ?_; rintro e w19 ⟨rfl, rfl⟩)
            | (go_at_call 33; refine (HL10.out.rdone d HDS.out).mono ?_; rintro e w19 ⟨rfl, rfl⟩)
            | (go_at_call 34; refine (HL10.out.ddone d HDS.out).mono ?_; rintro e w19 ⟨rfl, hl19⟩; have HL19 := Lib.hid hl19; clear hl19))
          go_roundw
          case rel => exact ⟨k + 1, _, _, by omega, by omega, by go_num, HL19.out, by have := HRS.out; simp; omega⟩
          case measure => simp [intOf]; omega
        · have H3 := Lib.hid h3
          clear h3
          obtain ⟨t, kk, ve, se, go, nb, lb, hf⟩ := EF.some s
          have HNB := Lib.hid hf.nl
          have HF := Lib.hid hf
          clear hf
          obtain ⟨b, hb⟩ : ∃ b, badS (aftE s) = b := ⟨_, rfl⟩
          obtain ⟨d, hd⟩ : ∃ d, doneS (aftE s) = d := ⟨_, rfl⟩
          have HBS := Lib.hid hb
          have HDS := Lib.hid hd
          clear hb hd
          go_wp2_with (first
            | (go_at_call 23; refine (pick_any _ _ _ (by omega) (by omega) z0 z1).mono ?_; rintro e w6 ⟨rfl, rfl⟩; rw [H3.out])
            | (go_at_call 28; refine (HL.out.rentry T q HE.out HF.out).mono ?_; rintro e w7 ⟨A7, c7, rfl, hl7⟩; have HL7 := Lib.hid hl7; clear hl7))
          have hbx : Blk (w7.alloc (.cells #[.int .i64 t, .int .u8 kk, .int .i64 ve, .int .i64 se, .bool go, .slice A7 nb c7] 28)) w7.heap.size 28 #[.int .i64 t, .int .u8 kk, .int .i64 ve, .int .i64 se, .bool go, .slice A7 nb c7] := Blk.new _ _ _
          have HBX := Lib.hid hbx
          have hhx : ¬ w7.heap.size = h := by obtain ⟨cs, hb⟩ := HL7.out.dh.blk; have := hb.lt; omega
          obtain ⟨s0, s1, s2, s3, s4, s5⟩ := six_blk6 hbx
          clear hbx
          go_region_held3 (fun w' => w'.cell? ⟨w7.heap.size, 0, none⟩ = some (.int .i64 t) ∧ w'.cell? ⟨w7.heap.size, 1, none⟩ = some (.int .u8 kk) ∧ w'.cell? ⟨w7.heap.size, 2, none⟩ = some (.int .i64 ve) ∧ w'.cell? ⟨w7.heap.size, 3, none⟩ = some (.int .i64 se) ∧ w'.cell? ⟨w7.heap.size, 4, none⟩ = some (.bool go) ∧ w'.cell? ⟨w7.heap.size, 5, none⟩ = some (.slice A7 nb c7))
            (go_keep)
            (first
              | (go_at_call 30; refine ((HL7.out.keep (Below.drew (alloc_new _ _))).dentry HF.out).mono ?_; rintro e w8 ⟨A8, c8, rfl, hr8, hl8, hch8⟩; have HR8 := Lib.hid hr8; have HL8 := Lib.hid hl8; have HB8 := Lib.hid (Blk.ch (Blk.drew HBX.out) hch8 hhx); obtain ⟨s0, s1, s2, s3, s4, s5⟩ := six_blk6 HB8.out; clear hr8 hl8 hch8)
              | (go_at_call 29; refine (same_entry_n t kk ve se go A7 A8 nb c7 c8 lb _ HNB.out (last_n HL8.out HNB.out).2 (last_n HL8.out HNB.out).1 HR8.out).mono ?_; rintro e w9 ⟨rfl, hn9⟩; have HL9 := Lib.hid (HL8.out.keep hn9); obtain ⟨s0, s1, s2, s3, s4, s5⟩ := six_blk6 (HB8.out.below hn9 HB8.out.lt); clear hn9))
          go_wp2_with (first
            | (at_builtin; refine wpList_append_any _ rfl (.tmp 50) (.tmp 53) 39 rfl w.heap.size 23 i0 _ 1 24 Tryz.underlying39 hi hz0 hz1 hz2 rfl (by omega) _ _ _ rfl (HL9.out.told.alloc _) _ _ 1 1 _ rfl (told_one w9 _ _) one_row (told_bnd HRS.out hl3).1 (told_bnd HRS.out hl3).2 (Nat.le_trans HL9.out.rows.new.size (alloc_new _ _).size) ?_; intro v10 w10 hown10 hg10 _; have HL10 := Lib.hid (LS.tell HL9.out hown10 hg10); clear hown10 hg10)
            | (go_at_call 31; refine (HL10.out.rbad b HBS.out).mono ?_; rintro e w19 ⟨rfl, rfl⟩)
            | (go_at_call 32; refine (HL10.out.dbad b HBS.out).mono ?_; rintro e w19 ⟨rfl, rfl⟩)
            | (go_at_call 33; refine (HL10.out.rdone d HDS.out).mono ?_; rintro e w19 ⟨rfl, rfl⟩)
            | (go_at_call 34; refine (HL10.out.ddone d HDS.out).mono ?_; rintro e w19 ⟨rfl, hl19⟩; have HL19 := Lib.hid hl19; clear hl19))
          go_roundw
          case rel => exact ⟨k + 1, _, _, by omega, by omega, by go_num, HL19.out, by have := HRS.out; simp; omega⟩
          case measure => simp [intOf]; omega
      · have hnot : ¬ k < m ∨ (k < m ∧ ¬ k < 300) := by omega
        clear hlt
        obtain ⟨vA, vc, rfl, hvn, hvm, hvr⟩ := own_len HL.out.told
        have HV := Lib.hid hvr
        clear hvn hvm hvr
        obtain ⟨N, hN⟩ : ∃ N, (rs.map Prod.fst).length = N := ⟨_, rfl⟩
        have HNN : Hid (N = rs.length) := Lib.hid (by rw [← hN, List.length_map])
        rw [hN] at HV ⊢
        clear hN
        rcases hnot with t3 | ⟨t3, t4⟩
        all_goals
          go_wp2_with (first
            | (go_at_call 19; refine (apart_told vA vc HL.out.rows HNN.out (by have := HRS.out; have := HNN.out; omega) HL.out.lens HV.out).mono ?_; rintro e w20 ⟨rfl, hb20⟩; have HN20 := Lib.hid ((HL.out.rows.new : Below w.heap.size w wr).trans hb20); clear hb20)
            | (go_at_call 8; refine (awake_any T q _ (errNew HE.out HN20.out)).mono ?_; rintro e w21 ⟨rfl, hn21⟩))
          go_ret
          exact ⟨rfl, New.then HN20.out hn21⟩
end Go.Proofs.YtpkiopijfhkagaaGreatDoor.laws
