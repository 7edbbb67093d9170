/-
  Two readers side by side, and the rows that were told, while a law goes on.
-/
import Derived.Test.YtpkiopijfhkagaaGreatDoorReadS
namespace Go.Proofs.YtpkiopijfhkagaaGreatDoor.rd
open Go.RowKit Go.Proofs.YtpkiopijfhkagaaGreatDoor.mem Go.Proofs.YtpkiopijfhkagaaGreatDoor.kit Go.Proofs.YtpkiopijfhkagaaGreatDoor.wire
set_option linter.unusedVariables false

/-- A reader whose bytes lie above block B. -/
def GoodO (B : Nat) (w : World) (g : Nat) (l : List UInt8) : Prop :=
  ∃ A c, Blk w g 77 #[.slice A l.length c, .pointer (some ⟨g, 0, none⟩)] ∧ l.length ≤ c ∧ c ≤ maxLen ∧ Reads w w.heap.size 1 A l.length (vb l) ∧ (∀ ad, A = some ad → (∃ cs, Blk w ad.block 5 cs) ∧ B ≤ ad.block)
theorem GoodO.new {B : Nat} {w w' : World} {g : Nat} {l : List UInt8} (h : GoodO B w g l) (hn : New w w') : GoodO B w' g l := by
  obtain ⟨A, c, hb, h1, h2, hr, ht⟩ := h
  exact ⟨A, c, hb.below hn hb.lt, h1, h2, hr.new hn, fun ad e => by obtain ⟨⟨cs, hcs⟩, hB⟩ := ht ad e; exact ⟨⟨cs, hcs.below hn hcs.lt⟩, hB⟩⟩
theorem GoodO.over {B : Nat} {w w' : World} {g x : Nat} {l : List UInt8} (h : GoodO B w g l) (hch : Ch (fun j => j = x) w w') (hx : x < B) (hne : x ≠ g) : Good w' g l := by
  obtain ⟨A, c, hb, h1, h2, hr, ht⟩ := h
  refine ⟨A, c, hb.ch hch (fun e => hne e.symm), h1, h2, hr.ch hch (fun ad e e2 => by obtain ⟨_, hB⟩ := ht ad e; have e3 : ad.block = x := e2; omega), fun ad e => ?_⟩
  obtain ⟨⟨cs, hcs⟩, hB⟩ := ht ad e
  exact ⟨cs, hcs.ch hch (fun e2 => by have e3 : ad.block = x := e2; omega)⟩
def DRO (B : Nat) (w : World) (g : Nat) (l : List UInt8) : Prop :=
  ∃ A c, Blk w g 79 #[.slice A l.length c, .int .i64 0, .bool false] ∧ Reads w w.heap.size 1 A l.length (vb l) ∧ (l.length ≤ c ∧ c ≤ maxLen) ∧ ∀ ad, A = some ad → (∃ cs, Blk w ad.block 5 cs) ∧ B ≤ ad.block
theorem DRO.new {B : Nat} {w w' : World} {g : Nat} {l : List UInt8} (h : DRO B w g l) (hn : New w w') : DRO B w' g l := by
  obtain ⟨A, c, hb, hr, h1, ht⟩ := h
  exact ⟨A, c, hb.below hn hb.lt, hr.new hn, h1, fun ad e => by obtain ⟨⟨cs, hcs⟩, hB⟩ := ht ad e; exact ⟨⟨cs, hcs.below hn hcs.lt⟩, hB⟩⟩
theorem DRO.over {B : Nat} {w w' : World} {g x : Nat} {l : List UInt8} (h : DRO B w g l) (hch : Ch (fun j => j = x) w w') (hx : x < B) (hne : x ≠ g) : rread.DR w' g l 0 false := by
  obtain ⟨A, c, hb, hr, h1, ht⟩ := h
  refine ⟨Nat.zero_le _, A, c, hb.ch hch (fun e => hne e.symm), hr.ch hch (fun ad e e2 => by obtain ⟨_, hB⟩ := ht ad e; have e3 : ad.block = x := e2; omega), h1, fun ad e => ?_⟩
  obtain ⟨⟨cs, hcs⟩, hB⟩ := ht ad e
  exact ⟨cs, hcs.ch hch (fun e2 => by have e3 : ad.block = x := e2; omega)⟩

theorem own_least {w : World} {base n : Nat} {e : TypeId} {A : Option Addr} {c : Nat} {xs : List Value} (h : w.ownsRow base e 1 (.slice A n c) n xs) : ∀ ad, A = some ad → base ≤ ad.block := by
  rintro ad rfl
  rcases h.2 with ⟨h', _⟩ | ⟨g, cap, cur, h', hb, _⟩
  · cases h'
  · injection h' with h1 _ _
    injection h1 with h1
    subst h1
    exact hb

set_option maxRecDepth 100000 in
theorem new_own (A : Option Addr) (n c : Nat) (l : List UInt8) (w : World) (hnl : n = l.length) (hl : l.length ≤ 1099511627776) (hA : Reads w w.heap.size 1 A l.length (vb l)) :
    Calls Tryz.prog 20 #[.slice A n c] w fun e w' => ∃ g, e = .returned (.pointer (some ⟨g, 0, none⟩)) ∧ w.heap.size ≤ g ∧ GoodO w.heap.size w' g l ∧ New w w' := by
  subst hnl
  have HC := Lib.hid (clone_any A c l w hl hA)
  clear hA
  go_enter Tryz.func20, Tryz.ntmps20
  go_wp2_with (go_at_call 40; refine HC.out.mono ?_; rintro e w1 ⟨A1, c1, rfl, ho, hn⟩)
  go_ret
  obtain ⟨⟨h1, h2⟩, hr, ht⟩ := own_typed ho
  have hn2 := (new_refl w1).alloc (Nat.le_refl _) (.cells #[.slice A1 l.length c1, .pointer (some ⟨w1.heap.size, 0, none⟩)] 77)
  exact ⟨w1.heap.size, rfl, hn.size, ⟨A1, c1, Blk.new _ _ _, h1, h2, hr.new hn2, fun ad e => by obtain ⟨cs, hcs⟩ := ht ad e; exact ⟨⟨cs, hcs.alloc _⟩, own_least ho ad e⟩⟩, New.then hn hn2⟩
set_option maxRecDepth 100000 in
theorem rnew_own (A : Option Addr) (n c : Nat) (l : List UInt8) (w : World) (hnl : n = l.length) (hl : l.length ≤ 1099511627776) (hA : Reads w w.heap.size 1 A l.length (vb l)) :
    Calls Tryz.prog 21 #[.slice A n c] w fun e w' => ∃ g, e = .returned (.pointer (some ⟨g, 0, none⟩)) ∧ w.heap.size ≤ g ∧ DRO w.heap.size w' g l ∧ New w w' := by
  subst hnl
  obtain ⟨i0, hi, hz0, hz1, hz2⟩ := info_parts byte_info
  have HA := Lib.hid hA
  clear hA
  have hn0 := (new_refl w).alloc (Nat.le_refl _) (.cells #[] 5)
  have HO := Lib.hid (World.ownsRow_made (e := 5) (base := w.heap.size) (size := 1) w #[] 0 (Nat.le_refl _) (by unfold maxLen; omega) (by simp))
  go_enter Tryz.func21, Tryz.ntmps21
  go_wp2_with
    (at_builtin; refine wpList_append_any _ rfl (.tmp 3) (.tmp 4) 23 rfl w.heap.size 5 i0 _ 1 1 Tryz.underlying23 hi hz0 hz1 hz2 rfl (by omega) (.slice (some ⟨w.heap.size, 0, none⟩) 0 0) _ _ rfl HO.out _ _ _ _ _ rfl (HA.out.new hn0) (vb_one _) (by unfold maxLen; omega) (by omega) hn0.size ?_; intro v2 w2 hown2 hg2 _; rw [List.nil_append, Nat.zero_add] at hown2; obtain ⟨A2, c2, hv2, _⟩ := own_len hown2; subst hv2; have HO2 := Lib.hid hown2; clear hown2)
  have hN : New w w2 := hn0.grown hg2 hn0.size (fun k hk => by simp [Value.ownBlock] at hk; omega)
  have hn3 := (new_refl w2).alloc (Nat.le_refl _) (.cells #[.slice A2 l.length c2, .int .i64 0, .bool false] 79)
  obtain ⟨hcc, hr, ht⟩ := own_typed HO2.out
  go_ret
  exact ⟨w2.heap.size, rfl, hN.size, ⟨A2, c2, Blk.new _ _ _, hr.new hn3, hcc, fun ad e => by obtain ⟨cs, hcs⟩ := ht ad e; exact ⟨⟨cs, hcs.alloc _⟩, own_least HO2.out ad e⟩⟩, New.then hN hn3⟩

/-! ### readers past another block -/
theorem Good.pastx {w w' : World} {g x : Nat} {l : List UInt8} {t : TypeId} {cs : Array Value} (h : Good w g l) (hx : Blk w x t cs) (ht8 : t ≠ 5) (hch : Ch (fun j => j = x) w w') (hne : x ≠ g) : Good w' g l := by
  obtain ⟨A, c, hb, h1, h2, hr, ht⟩ := h
  have hnn : ∀ ad, A = some ad → ¬ ad.block = x := fun ad e e2 => by obtain ⟨cs', hcs⟩ := ht ad e; exact Blk.ne_ hcs hx (fun e3 => ht8 e3.symm) e2
  exact ⟨A, c, hb.ch hch (fun e => hne e.symm), h1, h2, hr.ch hch hnn, fun ad e => by obtain ⟨cs', hcs⟩ := ht ad e; exact ⟨cs', hcs.ch hch (hnn ad e)⟩⟩
theorem DR.pastx {w w' : World} {g x : Nat} {l : List UInt8} {a : Nat} {b : Bool} {t : TypeId} {cs : Array Value} (h : rread.DR w g l a b) (hx : Blk w x t cs) (ht8 : t ≠ 5) (hch : Ch (fun j => j = x) w w') (hne : x ≠ g) : rread.DR w' g l a b := by
  obtain ⟨h0, A, c, hb, hr, h1, ht⟩ := h
  have hnn : ∀ ad, A = some ad → ¬ ad.block = x := fun ad e e2 => by obtain ⟨cs', hcs⟩ := ht ad e; exact Blk.ne_ hcs hx (fun e3 => ht8 e3.symm) e2
  exact ⟨h0, A, c, hb.ch hch (fun e => hne e.symm), hr.ch hch hnn, h1, fun ad e => by obtain ⟨cs', hcs⟩ := ht ad e; exact ⟨cs', hcs.ch hch (hnn ad e)⟩⟩
theorem RS.blk {w : World} {g : Nat} {s : Lft} (h : RS w g s) : ∃ cs, Blk w g 77 cs := by
  cases s with
  | none => exact ⟨_, h⟩
  | some L => obtain ⟨_, A, c, hb, _⟩ := h; exact ⟨_, hb⟩
theorem DS.blk {w : World} {g : Nat} {s : Lft} (h : DS w g s) : ∃ cs, Blk w g 79 cs := by
  cases s with
  | none => obtain ⟨l, a, _, _, A, c, hb, _⟩ := h; exact ⟨_, hb⟩
  | some L => obtain ⟨l, a, _, _, _, _, A, c, hb, _⟩ := h; exact ⟨_, hb⟩
theorem RS.pastx {w w' : World} {g x : Nat} {s : Lft} {t : TypeId} {cs : Array Value} (h : RS w g s) (hx : Blk w x t cs) (ht8 : t ≠ 5) (hch : Ch (fun j => j = x) w w') (hne : x ≠ g) : RS w' g s := by
  cases s with
  | none => exact Blk.ch h hch (fun e => hne e.symm)
  | some L => exact ⟨h.1, h.2.pastx hx ht8 hch hne⟩
theorem DS.pastx {w w' : World} {g x : Nat} {s : Lft} {t : TypeId} {cs : Array Value} (h : DS w g s) (hx : Blk w x t cs) (ht8 : t ≠ 5) (hch : Ch (fun j => j = x) w w') (hne : x ≠ g) : DS w' g s := by
  cases s with
  | none => obtain ⟨l, a, hl, hD⟩ := h; exact ⟨l, a, hl, DR.pastx hD hx ht8 hch hne⟩
  | some L => obtain ⟨l, a, hl, ha, e, hD⟩ := h; exact ⟨l, a, hl, ha, e, DR.pastx hD hx ht8 hch hne⟩
theorem RS.keep {w w' : World} {g : Nat} {s : Lft} (h : RS w g s) (hn : New w w') : RS w' g s := by
  cases s with
  | none => exact zero_new h hn
  | some L => exact ⟨h.1, h.2.new hn⟩
theorem DS.keep {w w' : World} {g : Nat} {s : Lft} (h : DS w g s) (hn : New w w') : DS w' g s := by
  cases s with
  | none => obtain ⟨l, a, hl, hD⟩ := h; exact ⟨l, a, hl, hD.new hn⟩
  | some L => obtain ⟨l, a, hl, ha, e, hD⟩ := h; exact ⟨l, a, hl, ha, e, hD.new hn⟩

/-- The law's state: both readers, the rows that were told (and how many of them stand in 'told'). -/
structure LS (W : World) (g h : Nat) (s1 s2 : Lft) (v : Value) (vs : List Value) (rs : List (Value × List UInt8)) (w : World) : Prop where
  rg : RS w g s1
  dh : DS w h s2
  rows : RSt W rs w
  told : w.ownsRow W.heap.size 23 1 v vs.length vs
  hg : W.heap.size ≤ g
  hh : W.heap.size ≤ h
  ne : g ≠ h
  lens : ∀ p ∈ rs, p.2.length ≤ 1099511627776
theorem LS.keep {W w w' : World} {g h : Nat} {s1 s2 : Lft} {v : Value} {vs : List Value} {rs : List (Value × List UInt8)} (k : LS W g h s1 s2 v vs rs w) (hn : New w w') : LS W g h s1 s2 v vs rs w' :=
  ⟨k.rg.keep hn, k.dh.keep hn, k.rows.keep hn, own_new k.told hn, k.hg, k.hh, k.ne, k.lens⟩
theorem rows_past {W w w' : World} {rs : List (Value × List UInt8)} {x : Nat} {t : TypeId} {cs : Array Value} (h : RSt W rs w) (hx : Blk w x t cs) (ht8 : t ≠ 5) (hch : Ch (fun j => j = x) w w') (hxW : W.heap.size ≤ x) : RSt W rs w' :=
  ⟨((Ch.of_new (S := fun j => j = x) h.new).then hch (fun i hi e => e)).below (Nat.le_refl _) (fun k hk e => by have e' : k = x := e; omega),
   fun k hk => ⟨(h.row k hk).1, own_ch (h.row k hk).2 hch (fun j hj e => own_blk_ne (h.row k hk).2 hx (fun e3 => ht8 e3.symm) (hj.trans (congrArg some e)))⟩, h.apart⟩
theorem LS.rop {W w w' : World} {g h : Nat} {s1 s1' s2 : Lft} {v : Value} {vs : List Value} {rs : List (Value × List UInt8)} (k : LS W g h s1 s2 v vs rs w) (hR : RS w' g s1') (hch : Ch (fun j => j = g) w w') : LS W g h s1' s2 v vs rs w' := by
  obtain ⟨cs, hb⟩ := k.rg.blk
  exact ⟨hR, k.dh.pastx hb (by decide) hch k.ne, rows_past k.rows hb (by decide) hch k.hg, own_ch k.told hch (fun j hj e => own_blk_ne k.told hb (by decide) (hj.trans (congrArg some e))), k.hg, k.hh, k.ne, k.lens⟩
theorem LS.dop {W w w' : World} {g h : Nat} {s1 s2 s2' : Lft} {v : Value} {vs : List Value} {rs : List (Value × List UInt8)} (k : LS W g h s1 s2 v vs rs w) (hD : DS w' h s2') (hch : Ch (fun j => j = h) w w') : LS W g h s1 s2' v vs rs w' := by
  obtain ⟨cs, hb⟩ := k.dh.blk
  exact ⟨k.rg.pastx hb (by decide) hch (fun e => k.ne e.symm), hD, rows_past k.rows hb (by decide) hch k.hh, own_ch k.told hch (fun j hj e => own_blk_ne k.told hb (by decide) (hj.trans (congrArg some e))), k.hg, k.hh, k.ne, k.lens⟩
/-- A row more was told. -/
theorem LS.push {W w w' : World} {g h : Nat} {s1 s1' s2 : Lft} {v : Value} {vs : List Value} {rs : List (Value × List UInt8)} {A : Option Addr} {c : Nat} {l : List UInt8} (k : LS W g h s1 s2 v vs rs w) (hR : RS w' g s1') (hch : Ch (fun j => j = g) w w') (hl : l.length ≤ 1099511627776)
    (ho : w'.ownsRow w.heap.size 5 1 (.slice A l.length c) l.length (vb l)) : LS W g h s1' s2 v vs (rs ++ [(.slice A l.length c, l)]) w' := by
  have k' := k.rop hR hch
  refine ⟨k'.rg, k'.dh, ⟨k'.rows.new, fun q hlt => ?_, fun i q hj hlt b hb => ?_⟩, k'.told, k'.hg, k'.hh, k'.ne, fun p hp => ?_⟩
  · by_cases he : q < rs.length
    · rw [List.getElem_append_left he]
      exact k'.rows.row q he
    · obtain rfl : q = rs.length := by simp at hlt; omega
      rw [List.getElem_append_right (Nat.le_refl _)]
      simp only [Nat.sub_self, List.getElem_cons_zero]
      exact ⟨⟨A, c, rfl⟩, own_base ho k.rows.new.size⟩
  · by_cases he : q < rs.length
    · rw [List.getElem_append_left he]
      rw [List.getElem_append_left (by omega)] at hb
      exact k'.rows.apart i q hj he b hb
    · obtain rfl : q = rs.length := by simp at hlt; omega
      rw [List.getElem_append_right (Nat.le_refl _)]
      simp only [Nat.sub_self, List.getElem_cons_zero]
      rw [List.getElem_append_left hj] at hb
      intro hb2
      have h1 := ((k.rows.row i hj).2.lt b hb).2
      have h2 := (ho.lt b hb2).1
      omega
  · rcases List.mem_append.1 hp with hp | hp
    · exact k'.lens p hp
    · simp at hp
      subst hp
      exact hl
theorem LS.last {W w : World} {g h : Nat} {s1 s2 : Lft} {v : Value} {vs : List Value} {rs : List (Value × List UInt8)} {A : Option Addr} {c : Nat} {l : List UInt8} (k : LS W g h s1 s2 v vs (rs ++ [(.slice A l.length c, l)]) w) : Reads w w.heap.size 1 A l.length (vb l) :=
  k.rows.at_ rs.length (by simp) (A := A) (n := l.length) (c := c) (l := l) (by simp)
end Go.Proofs.YtpkiopijfhkagaaGreatDoor.rd
