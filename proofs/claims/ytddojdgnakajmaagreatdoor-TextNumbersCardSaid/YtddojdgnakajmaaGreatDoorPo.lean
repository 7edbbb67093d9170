/-
  The document's Parse: an instruction, whole.
-/
import Derived.Test.YtddojdgnakajmaaGreatDoorPn1
import Derived.Test.YtddojdgnakajmaaGreatDoorPn2
import Derived.Test.YtddojdgnakajmaaGreatDoorPn3
namespace Go.Proofs.YtddojdgnakajmaaGreatDoor.txt
open Go.RowKit Go.Proofs.YtddojdgnakajmaaGreatDoor.mem Go.Proofs.YtddojdgnakajmaaGreatDoor.kit Go.Proofs.YtddojdgnakajmaaGreatDoor.ins
set_option linter.unusedVariables false
set_option linter.unusedSimpArgs false

theorem rinst_any (g : Nat) (s : Ls) (w : World) (h : SL0 g s w) (hk : s.k ≤ 100) : Calls Tryz.prog 52 #[.pointer (some ⟨g, 0, none⟩)] w (InstD g (InstR s) w) := by
  have mk : ∀ {R : In → Bs → Ls → Prop}, (∀ j u s', R j u s' → InstR s j u s') → ∀ {e w'}, InstD g R w e w' → InstD g (InstR s) w e w' := fun hR e w' h => by
    obtain ⟨j, u, s', h1, h2, h3, h4⟩ := h
    exact ⟨j, u, s', h1, hR _ _ _ h2, h3, h4⟩
  obtain ⟨o, n, ho⟩ := opis_some (nx s)
  rcases ho.rng with ⟨h1, h27⟩ | ⟨rfl, rfl⟩
  · by_cases h13 : o = 13
    · subst h13
      refine (rinst_neg g s n w h hk ho).mono fun e w' hd => mk (fun j u s' hR => ?_) hd
      obtain ⟨d, hd1, rfl, rfl, rfl⟩ := hR
      exact ⟨inI (regS (tkS s)) ⟨13, n, d, 0, false, 0, 0, 0⟩, .inl ⟨n, ho, rfl, d, hd1, rfl⟩, rfl, rfl⟩
    · by_cases h17 : 17 ≤ o
      · refine (rinst_jeq g s o n w h hk ho h17 h27).mono fun e w' hd => mk (fun j u s' hR => ?_) hd
        obtain ⟨s1, hw, rfl, rfl⟩ := hR
        exact ⟨s1, .inr (.inl ⟨o, n, ho, h17, h27, hw⟩), rfl, rfl⟩
      · refine (rinst_add g s o n w h hk ho h1 (by omega) h13).mono fun e w' hd => mk (fun j u s' hR => ?_) hd
        obtain ⟨s1, hw, rfl, rfl⟩ := hR
        exact ⟨s1, .inr (.inr (.inl ⟨o, n, ho, h1, by omega, h13, hw⟩)), rfl, rfl⟩
  · rcases szM_is (nx s) [108, 111, 97, 100] with hl | ⟨hl1, hl8⟩
    · rcases szM_is (nx s) [112, 117, 116] with hp | ⟨hp1, hp8⟩
      · by_cases hj : nx s = [106, 117, 109, 112]
        · refine (rinst_jump g s w h hk ho hl hp hj).mono fun e w' hd => mk (fun j u s' hR => ?_) hd
          obtain ⟨s1, hw, rfl, rfl⟩ := hR
          exact ⟨s1, .inr (.inr (.inr (.inr (.inr (.inl ⟨ho, hl, hp, hj, hw⟩))))), rfl, rfl⟩
        · by_cases he : nx s = [101, 120, 105, 116]
          · refine (rinst_exit g s w h hk ho hl hp he).mono fun e w' hd => mk (fun j u s' hR => ?_) hd
            obtain ⟨s1, hw, rfl, rfl⟩ := hR
            exact ⟨s1, .inr (.inr (.inr (.inr (.inr (.inr (.inl ⟨ho, hl, hp, he, hw⟩)))))), rfl, rfl⟩
          · refine (rinst_none g s w h hk ho hl hp hj he).mono fun e w' hd => mk (fun j u s' hR => ?_) hd
            obtain ⟨s1, hw, rfl, rfl⟩ := hR
            exact ⟨s1, .inr (.inr (.inr (.inr (.inr (.inr (.inr ⟨ho, hl, hp, hj, he, hw⟩)))))), rfl, rfl⟩
      · refine (rinst_put g s _ w h hk ho hl rfl hp1 hp8).mono fun e w' hd => mk (fun j u s' hR => ?_) hd
        obtain ⟨s1, hw, rfl, rfl⟩ := hR
        exact ⟨s1, .inr (.inr (.inr (.inr (.inl ⟨ho, hl, _, rfl, hp1, hw⟩)))), rfl, rfl⟩
    · refine (rinst_load g s _ w h hk ho rfl hl1 hl8).mono fun e w' hd => mk (fun j u s' hR => ?_) hd
      obtain ⟨s1, hw, rfl, rfl⟩ := hR
      exact ⟨s1, .inr (.inr (.inr (.inl ⟨ho, _, rfl, hl1, hw⟩))), rfl, rfl⟩
end Go.Proofs.YtddojdgnakajmaaGreatDoor.txt
