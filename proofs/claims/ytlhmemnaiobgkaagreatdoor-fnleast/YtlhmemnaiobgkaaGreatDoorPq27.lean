/- Texts in one: Chn, SeM. -/
import Derived.Test.YtlhmemnaiobgkaaGreatDoorPq8
import Derived.Test.YtlhmemnaiobgkaaGreatDoorPq12
import Derived.Deep.RegionHeld3
/- Regions that draw their order: a chain of calls, and an alloc that may come at any time; no program is named here. -/
namespace Go.Proofs.YtlhmemnaiobgkaaGreatDoor.Mem
open Go.RowKit
set_option linter.unusedVariables false
set_option linter.unusedSimpArgs false

theorem wpOp_weak {P : Program} {ops : Array Oper} {Q : Exit → Act → World → Prop} {i : Nat} {o : Oper} {K : Act → World → Prop} {a : Act} {w : World} (ho : ops[i]? = some o)
    (h : ∀ K' : Act → World → Prop, Hid (∀ a' w', K a' w' → K' a' w') → if Region.wanted o (yielded ops a.tmps) = true then Oper.wp P o a w K' Q else K' (a.put o.dst undef) w) : wpOp P ops Q i K a w := by
  have h1 := h K (fun _ _ h => h)
  unfold wpOp
  rw [ho]
  simp only
  split
  · rename_i hw
    rw [if_pos hw] at h1
    exact Or.inl h1
  · rename_i hw
    rw [if_neg hw] at h1
    exact h1
theorem wpAnyH_one {P : Program} {md : Region.Mode} {ops : Array Oper} {Q : Exit → Act → World → Prop} {S : World → Prop} {f i : Nat} {L : Array Bool} {a : Act} {w : World} (hr : Region.ready md ops L = [i])
    (h : wpOp P ops Q i (fun a' w' => S w' ∧ wpAnyH P md ops Q S f (L.setIfInBounds i true) a' w') a w) : wpAnyH P md ops Q S (f + 1) L a w := by
  refine ⟨fun h0 => (by rw [hr] at h0; cases h0), fun j hj => ?_⟩
  rw [hr] at hj
  obtain rfl := List.mem_singleton.1 hj
  exact h
theorem wpAnyH_two {P : Program} {md : Region.Mode} {ops : Array Oper} {Q : Exit → Act → World → Prop} {S : World → Prop} {f i k : Nat} {L : Array Bool} {a : Act} {w : World} (hr : Region.ready md ops L = [i, k])
    (h : wpOp P ops Q i (fun a' w' => S w' ∧ wpAnyH P md ops Q S f (L.setIfInBounds i true) a' w') a w) (h2 : wpOp P ops Q k (fun a' w' => S w' ∧ wpAnyH P md ops Q S f (L.setIfInBounds k true) a' w') a w) : wpAnyH P md ops Q S (f + 1) L a w := by
  refine ⟨fun h0 => (by rw [hr] at h0; cases h0), fun j hj => ?_⟩
  rw [hr] at hj
  rcases List.mem_cons.1 hj with rfl | hj
  · exact h
  · obtain rfl := List.mem_singleton.1 hj
    exact h2
/-- one link of the chain -/
theorem chain_step {P : Program} {md : Region.Mode} {ops : Array Oper} {Q : Exit → Act → World → Prop} {S : World → Prop} {f c al : Nat} {L : Array Bool} (hne : c ≠ al) (hr : Region.ready md ops L = [c, al]) (hm : Region.ready md ops (L.setIfInBounds al true) = [c])
    {J J' : Act → World → Prop} {K K' : Act → World → Prop} (hJ : ∀ a w, J a w → wpOp P ops Q c (fun a' w' => S w' ∧ J' a' w') a w) (hA : ∀ a w, J a w → wpOp P ops Q al (fun a' w' => S w' ∧ K a' w') a w) (hK : ∀ a w, K a w → wpOp P ops Q c (fun a' w' => S w' ∧ K' a' w') a w)
    (n : (∀ a w, J' a w → wpAnyH P md ops Q S (f + 1) (L.setIfInBounds c true) a w) ∧ ∀ a w, K' a w → wpAnyH P md ops Q S f ((L.setIfInBounds c true).setIfInBounds al true) a w) :
    (∀ a w, J a w → wpAnyH P md ops Q S (f + 2) L a w) ∧ ∀ a w, K a w → wpAnyH P md ops Q S (f + 1) (L.setIfInBounds al true) a w := by
  have k : ∀ a w, K a w → wpAnyH P md ops Q S (f + 1) (L.setIfInBounds al true) a w := fun a w h => by
    refine wpAnyH_one hm (wpOp_mono (fun a' w' h' => ⟨h'.1, ?_⟩) (hK a w h))
    rw [Array.setIfInBounds_comm _ _ (Ne.symm hne)]
    exact n.2 a' w' h'.2
  exact ⟨fun a w h => wpAnyH_two hr (wpOp_mono (fun a' w' h' => ⟨h'.1, n.1 a' w' h'.2⟩) (hJ a w h)) (wpOp_mono (fun a' w' h' => ⟨h'.1, k a' w' h'.2⟩) (hA a w h)), k⟩

theorem chain1 {P : Program} {md : Region.Mode} {ops : Array Oper} {Q : Exit → Act → World → Prop} {S : World → Prop} {f : Nat} {L : Array Bool} {a : Act} {w : World} (c0 al : Nat) (G0 G1 : Act → Value → Act → World → Prop)
    (ne0 : c0 ≠ al)
    (r0 : Region.ready md ops L = [c0, al]) (q0 : Region.ready md ops (L.setIfInBounds al true) = [c0])
    (hC0 : ∀ x a' w', G0 a x a' w' → S w' → wpOp P ops Q c0 (fun a2 w2 => S w2 ∧ G1 a x a2 w2) a' w')
    (hA0 : ∀ a' w', G0 a undef a' w' → S w' → wpOp P ops Q al (fun a2 w2 => S w2 ∧ ∃ g : Nat, G0 a (.pointer (some ⟨g, 0, none⟩)) a2 w2) a' w')
    (tJ : ∀ a' w', G1 a undef a' w' → S w' → wpAnyH P md ops Q S (f + 1) (L.setIfInBounds c0 true) a' w')
    (tK : ∀ g a' w', G1 a (.pointer (some ⟨g, 0, none⟩)) a' w' → S w' → wpAnyH P md ops Q S f ((L.setIfInBounds c0 true).setIfInBounds al true) a' w')
    (h0 : G0 a undef a w) (hs : S w) : wpAnyH P md ops Q S (f + 1 + 1) L a w := by
  have s1 : (∀ a' w', (G1 a undef a' w' ∧ S w') → wpAnyH P md ops Q S (f + 1) (L.setIfInBounds c0 true) a' w') ∧ ∀ a' w', ((∃ g : Nat, G1 a (.pointer (some ⟨g, 0, none⟩)) a' w') ∧ S w') → wpAnyH P md ops Q S f ((L.setIfInBounds c0 true).setIfInBounds al true) a' w' := ⟨fun a' w' h => tJ a' w' h.1 h.2, fun a' w' ⟨⟨g, h⟩, hs⟩ => tK g a' w' h hs⟩
  have s0 := chain_step (J := fun a' w' => G0 a undef a' w' ∧ S w') (K := fun a' w' => (∃ g : Nat, G0 a (.pointer (some ⟨g, 0, none⟩)) a' w') ∧ S w') ne0 r0 q0 (fun a' w' h => wpOp_mono (fun a2 w2 h2 => ⟨h2.1, h2.2, h2.1⟩) (hC0 undef a' w' h.1 h.2)) (fun a' w' h => wpOp_mono (fun a2 w2 h2 => ⟨h2.1, h2.2, h2.1⟩) (hA0 a' w' h.1 h.2)) (fun a' w' ⟨⟨g, h⟩, hs⟩ => wpOp_mono (fun a2 w2 h2 => ⟨h2.1, ⟨g, h2.2⟩, h2.1⟩) (hC0 _ a' w' h hs)) s1
  exact s0.1 a w ⟨h0, hs⟩
theorem chain2 {P : Program} {md : Region.Mode} {ops : Array Oper} {Q : Exit → Act → World → Prop} {S : World → Prop} {f : Nat} {L : Array Bool} {a : Act} {w : World} (c0 c1 al : Nat) (G0 G1 G2 : Act → Value → Act → World → Prop)
    (ne0 : c0 ≠ al) (ne1 : c1 ≠ al)
    (r0 : Region.ready md ops L = [c0, al]) (q0 : Region.ready md ops (L.setIfInBounds al true) = [c0])
    (r1 : Region.ready md ops (L.setIfInBounds c0 true) = [c1, al]) (q1 : Region.ready md ops ((L.setIfInBounds c0 true).setIfInBounds al true) = [c1])
    (hC0 : ∀ x a' w', G0 a x a' w' → S w' → wpOp P ops Q c0 (fun a2 w2 => S w2 ∧ G1 a x a2 w2) a' w')
    (hC1 : ∀ x a' w', G1 a x a' w' → S w' → wpOp P ops Q c1 (fun a2 w2 => S w2 ∧ G2 a x a2 w2) a' w')
    (hA0 : ∀ a' w', G0 a undef a' w' → S w' → wpOp P ops Q al (fun a2 w2 => S w2 ∧ ∃ g : Nat, G0 a (.pointer (some ⟨g, 0, none⟩)) a2 w2) a' w')
    (hA1 : ∀ a' w', G1 a undef a' w' → S w' → wpOp P ops Q al (fun a2 w2 => S w2 ∧ ∃ g : Nat, G1 a (.pointer (some ⟨g, 0, none⟩)) a2 w2) a' w')
    (tJ : ∀ a' w', G2 a undef a' w' → S w' → wpAnyH P md ops Q S (f + 1) ((L.setIfInBounds c0 true).setIfInBounds c1 true) a' w')
    (tK : ∀ g a' w', G2 a (.pointer (some ⟨g, 0, none⟩)) a' w' → S w' → wpAnyH P md ops Q S f (((L.setIfInBounds c0 true).setIfInBounds c1 true).setIfInBounds al true) a' w')
    (h0 : G0 a undef a w) (hs : S w) : wpAnyH P md ops Q S (f + 2 + 1) L a w := by
  have s2 : (∀ a' w', (G2 a undef a' w' ∧ S w') → wpAnyH P md ops Q S (f + 1) ((L.setIfInBounds c0 true).setIfInBounds c1 true) a' w') ∧ ∀ a' w', ((∃ g : Nat, G2 a (.pointer (some ⟨g, 0, none⟩)) a' w') ∧ S w') → wpAnyH P md ops Q S f (((L.setIfInBounds c0 true).setIfInBounds c1 true).setIfInBounds al true) a' w' := ⟨fun a' w' h => tJ a' w' h.1 h.2, fun a' w' ⟨⟨g, h⟩, hs⟩ => tK g a' w' h hs⟩
  have s1 := chain_step (J := fun a' w' => G1 a undef a' w' ∧ S w') (K := fun a' w' => (∃ g : Nat, G1 a (.pointer (some ⟨g, 0, none⟩)) a' w') ∧ S w') ne1 r1 q1 (fun a' w' h => wpOp_mono (fun a2 w2 h2 => ⟨h2.1, h2.2, h2.1⟩) (hC1 undef a' w' h.1 h.2)) (fun a' w' h => wpOp_mono (fun a2 w2 h2 => ⟨h2.1, h2.2, h2.1⟩) (hA1 a' w' h.1 h.2)) (fun a' w' ⟨⟨g, h⟩, hs⟩ => wpOp_mono (fun a2 w2 h2 => ⟨h2.1, ⟨g, h2.2⟩, h2.1⟩) (hC1 _ a' w' h hs)) s2
  have s0 := chain_step (J := fun a' w' => G0 a undef a' w' ∧ S w') (K := fun a' w' => (∃ g : Nat, G0 a (.pointer (some ⟨g, 0, none⟩)) a' w') ∧ S w') ne0 r0 q0 (fun a' w' h => wpOp_mono (fun a2 w2 h2 => ⟨h2.1, h2.2, h2.1⟩) (hC0 undef a' w' h.1 h.2)) (fun a' w' h => wpOp_mono (fun a2 w2 h2 => ⟨h2.1, h2.2, h2.1⟩) (hA0 a' w' h.1 h.2)) (fun a' w' ⟨⟨g, h⟩, hs⟩ => wpOp_mono (fun a2 w2 h2 => ⟨h2.1, ⟨g, h2.2⟩, h2.1⟩) (hC0 _ a' w' h hs)) s1
  exact s0.1 a w ⟨h0, hs⟩
theorem chain3 {P : Program} {md : Region.Mode} {ops : Array Oper} {Q : Exit → Act → World → Prop} {S : World → Prop} {f : Nat} {L : Array Bool} {a : Act} {w : World} (c0 c1 c2 al : Nat) (G0 G1 G2 G3 : Act → Value → Act → World → Prop)
    (ne0 : c0 ≠ al) (ne1 : c1 ≠ al) (ne2 : c2 ≠ al)
    (r0 : Region.ready md ops L = [c0, al]) (q0 : Region.ready md ops (L.setIfInBounds al true) = [c0])
    (r1 : Region.ready md ops (L.setIfInBounds c0 true) = [c1, al]) (q1 : Region.ready md ops ((L.setIfInBounds c0 true).setIfInBounds al true) = [c1])
    (r2 : Region.ready md ops ((L.setIfInBounds c0 true).setIfInBounds c1 true) = [c2, al]) (q2 : Region.ready md ops (((L.setIfInBounds c0 true).setIfInBounds c1 true).setIfInBounds al true) = [c2])
    (hC0 : ∀ x a' w', G0 a x a' w' → S w' → wpOp P ops Q c0 (fun a2 w2 => S w2 ∧ G1 a x a2 w2) a' w')
    (hC1 : ∀ x a' w', G1 a x a' w' → S w' → wpOp P ops Q c1 (fun a2 w2 => S w2 ∧ G2 a x a2 w2) a' w')
    (hC2 : ∀ x a' w', G2 a x a' w' → S w' → wpOp P ops Q c2 (fun a2 w2 => S w2 ∧ G3 a x a2 w2) a' w')
    (hA0 : ∀ a' w', G0 a undef a' w' → S w' → wpOp P ops Q al (fun a2 w2 => S w2 ∧ ∃ g : Nat, G0 a (.pointer (some ⟨g, 0, none⟩)) a2 w2) a' w')
    (hA1 : ∀ a' w', G1 a undef a' w' → S w' → wpOp P ops Q al (fun a2 w2 => S w2 ∧ ∃ g : Nat, G1 a (.pointer (some ⟨g, 0, none⟩)) a2 w2) a' w')
    (hA2 : ∀ a' w', G2 a undef a' w' → S w' → wpOp P ops Q al (fun a2 w2 => S w2 ∧ ∃ g : Nat, G2 a (.pointer (some ⟨g, 0, none⟩)) a2 w2) a' w')
    (tJ : ∀ a' w', G3 a undef a' w' → S w' → wpAnyH P md ops Q S (f + 1) (((L.setIfInBounds c0 true).setIfInBounds c1 true).setIfInBounds c2 true) a' w')
    (tK : ∀ g a' w', G3 a (.pointer (some ⟨g, 0, none⟩)) a' w' → S w' → wpAnyH P md ops Q S f ((((L.setIfInBounds c0 true).setIfInBounds c1 true).setIfInBounds c2 true).setIfInBounds al true) a' w')
    (h0 : G0 a undef a w) (hs : S w) : wpAnyH P md ops Q S (f + 3 + 1) L a w := by
  have s3 : (∀ a' w', (G3 a undef a' w' ∧ S w') → wpAnyH P md ops Q S (f + 1) (((L.setIfInBounds c0 true).setIfInBounds c1 true).setIfInBounds c2 true) a' w') ∧ ∀ a' w', ((∃ g : Nat, G3 a (.pointer (some ⟨g, 0, none⟩)) a' w') ∧ S w') → wpAnyH P md ops Q S f ((((L.setIfInBounds c0 true).setIfInBounds c1 true).setIfInBounds c2 true).setIfInBounds al true) a' w' := ⟨fun a' w' h => tJ a' w' h.1 h.2, fun a' w' ⟨⟨g, h⟩, hs⟩ => tK g a' w' h hs⟩
  have s2 := chain_step (J := fun a' w' => G2 a undef a' w' ∧ S w') (K := fun a' w' => (∃ g : Nat, G2 a (.pointer (some ⟨g, 0, none⟩)) a' w') ∧ S w') ne2 r2 q2 (fun a' w' h => wpOp_mono (fun a2 w2 h2 => ⟨h2.1, h2.2, h2.1⟩) (hC2 undef a' w' h.1 h.2)) (fun a' w' h => wpOp_mono (fun a2 w2 h2 => ⟨h2.1, h2.2, h2.1⟩) (hA2 a' w' h.1 h.2)) (fun a' w' ⟨⟨g, h⟩, hs⟩ => wpOp_mono (fun a2 w2 h2 => ⟨h2.1, ⟨g, h2.2⟩, h2.1⟩) (hC2 _ a' w' h hs)) s3
  have s1 := chain_step (J := fun a' w' => G1 a undef a' w' ∧ S w') (K := fun a' w' => (∃ g : Nat, G1 a (.pointer (some ⟨g, 0, none⟩)) a' w') ∧ S w') ne1 r1 q1 (fun a' w' h => wpOp_mono (fun a2 w2 h2 => ⟨h2.1, h2.2, h2.1⟩) (hC1 undef a' w' h.1 h.2)) (fun a' w' h => wpOp_mono (fun a2 w2 h2 => ⟨h2.1, h2.2, h2.1⟩) (hA1 a' w' h.1 h.2)) (fun a' w' ⟨⟨g, h⟩, hs⟩ => wpOp_mono (fun a2 w2 h2 => ⟨h2.1, ⟨g, h2.2⟩, h2.1⟩) (hC1 _ a' w' h hs)) s2
  have s0 := chain_step (J := fun a' w' => G0 a undef a' w' ∧ S w') (K := fun a' w' => (∃ g : Nat, G0 a (.pointer (some ⟨g, 0, none⟩)) a' w') ∧ S w') ne0 r0 q0 (fun a' w' h => wpOp_mono (fun a2 w2 h2 => ⟨h2.1, h2.2, h2.1⟩) (hC0 undef a' w' h.1 h.2)) (fun a' w' h => wpOp_mono (fun a2 w2 h2 => ⟨h2.1, h2.2, h2.1⟩) (hA0 a' w' h.1 h.2)) (fun a' w' ⟨⟨g, h⟩, hs⟩ => wpOp_mono (fun a2 w2 h2 => ⟨h2.1, ⟨g, h2.2⟩, h2.1⟩) (hC0 _ a' w' h hs)) s1
  exact s0.1 a w ⟨h0, hs⟩
theorem chain4 {P : Program} {md : Region.Mode} {ops : Array Oper} {Q : Exit → Act → World → Prop} {S : World → Prop} {f : Nat} {L : Array Bool} {a : Act} {w : World} (c0 c1 c2 c3 al : Nat) (G0 G1 G2 G3 G4 : Act → Value → Act → World → Prop)
    (ne0 : c0 ≠ al) (ne1 : c1 ≠ al) (ne2 : c2 ≠ al) (ne3 : c3 ≠ al)
    (r0 : Region.ready md ops L = [c0, al]) (q0 : Region.ready md ops (L.setIfInBounds al true) = [c0])
    (r1 : Region.ready md ops (L.setIfInBounds c0 true) = [c1, al]) (q1 : Region.ready md ops ((L.setIfInBounds c0 true).setIfInBounds al true) = [c1])
    (r2 : Region.ready md ops ((L.setIfInBounds c0 true).setIfInBounds c1 true) = [c2, al]) (q2 : Region.ready md ops (((L.setIfInBounds c0 true).setIfInBounds c1 true).setIfInBounds al true) = [c2])
    (r3 : Region.ready md ops (((L.setIfInBounds c0 true).setIfInBounds c1 true).setIfInBounds c2 true) = [c3, al]) (q3 : Region.ready md ops ((((L.setIfInBounds c0 true).setIfInBounds c1 true).setIfInBounds c2 true).setIfInBounds al true) = [c3])
    (hC0 : ∀ x a' w', G0 a x a' w' → S w' → wpOp P ops Q c0 (fun a2 w2 => S w2 ∧ G1 a x a2 w2) a' w')
    (hC1 : ∀ x a' w', G1 a x a' w' → S w' → wpOp P ops Q c1 (fun a2 w2 => S w2 ∧ G2 a x a2 w2) a' w')
    (hC2 : ∀ x a' w', G2 a x a' w' → S w' → wpOp P ops Q c2 (fun a2 w2 => S w2 ∧ G3 a x a2 w2) a' w')
    (hC3 : ∀ x a' w', G3 a x a' w' → S w' → wpOp P ops Q c3 (fun a2 w2 => S w2 ∧ G4 a x a2 w2) a' w')
    (hA0 : ∀ a' w', G0 a undef a' w' → S w' → wpOp P ops Q al (fun a2 w2 => S w2 ∧ ∃ g : Nat, G0 a (.pointer (some ⟨g, 0, none⟩)) a2 w2) a' w')
    (hA1 : ∀ a' w', G1 a undef a' w' → S w' → wpOp P ops Q al (fun a2 w2 => S w2 ∧ ∃ g : Nat, G1 a (.pointer (some ⟨g, 0, none⟩)) a2 w2) a' w')
    (hA2 : ∀ a' w', G2 a undef a' w' → S w' → wpOp P ops Q al (fun a2 w2 => S w2 ∧ ∃ g : Nat, G2 a (.pointer (some ⟨g, 0, none⟩)) a2 w2) a' w')
    (hA3 : ∀ a' w', G3 a undef a' w' → S w' → wpOp P ops Q al (fun a2 w2 => S w2 ∧ ∃ g : Nat, G3 a (.pointer (some ⟨g, 0, none⟩)) a2 w2) a' w')
    (tJ : ∀ a' w', G4 a undef a' w' → S w' → wpAnyH P md ops Q S (f + 1) ((((L.setIfInBounds c0 true).setIfInBounds c1 true).setIfInBounds c2 true).setIfInBounds c3 true) a' w')
    (tK : ∀ g a' w', G4 a (.pointer (some ⟨g, 0, none⟩)) a' w' → S w' → wpAnyH P md ops Q S f (((((L.setIfInBounds c0 true).setIfInBounds c1 true).setIfInBounds c2 true).setIfInBounds c3 true).setIfInBounds al true) a' w')
    (h0 : G0 a undef a w) (hs : S w) : wpAnyH P md ops Q S (f + 4 + 1) L a w := by
  have s4 : (∀ a' w', (G4 a undef a' w' ∧ S w') → wpAnyH P md ops Q S (f + 1) ((((L.setIfInBounds c0 true).setIfInBounds c1 true).setIfInBounds c2 true).setIfInBounds c3 true) a' w') ∧ ∀ a' w', ((∃ g : Nat, G4 a (.pointer (some ⟨g, 0, none⟩)) a' w') ∧ S w') → wpAnyH P md ops Q S f (((((L.setIfInBounds c0 true).setIfInBounds c1 true).setIfInBounds c2 true).setIfInBounds c3 true).setIfInBounds al true) a' w' := ⟨fun a' w' h => tJ a' w' h.1 h.2, fun a' w' ⟨⟨g, h⟩, hs⟩ => tK g a' w' h hs⟩
  have s3 := chain_step (J := fun a' w' => G3 a undef a' w' ∧ S w') (K := fun a' w' => (∃ g : Nat, G3 a (.pointer (some ⟨g, 0, none⟩)) a' w') ∧ S w') ne3 r3 q3 (fun a' w' h => wpOp_mono (fun a2 w2 h2 => ⟨h2.1, h2.2, h2.1⟩) (hC3 undef a' w' h.1 h.2)) (fun a' w' h => wpOp_mono (fun a2 w2 h2 => ⟨h2.1, h2.2, h2.1⟩) (hA3 a' w' h.1 h.2)) (fun a' w' ⟨⟨g, h⟩, hs⟩ => wpOp_mono (fun a2 w2 h2 => ⟨h2.1, ⟨g, h2.2⟩, h2.1⟩) (hC3 _ a' w' h hs)) s4
  have s2 := chain_step (J := fun a' w' => G2 a undef a' w' ∧ S w') (K := fun a' w' => (∃ g : Nat, G2 a (.pointer (some ⟨g, 0, none⟩)) a' w') ∧ S w') ne2 r2 q2 (fun a' w' h => wpOp_mono (fun a2 w2 h2 => ⟨h2.1, h2.2, h2.1⟩) (hC2 undef a' w' h.1 h.2)) (fun a' w' h => wpOp_mono (fun a2 w2 h2 => ⟨h2.1, h2.2, h2.1⟩) (hA2 a' w' h.1 h.2)) (fun a' w' ⟨⟨g, h⟩, hs⟩ => wpOp_mono (fun a2 w2 h2 => ⟨h2.1, ⟨g, h2.2⟩, h2.1⟩) (hC2 _ a' w' h hs)) s3
  have s1 := chain_step (J := fun a' w' => G1 a undef a' w' ∧ S w') (K := fun a' w' => (∃ g : Nat, G1 a (.pointer (some ⟨g, 0, none⟩)) a' w') ∧ S w') ne1 r1 q1 (fun a' w' h => wpOp_mono (fun a2 w2 h2 => ⟨h2.1, h2.2, h2.1⟩) (hC1 undef a' w' h.1 h.2)) (fun a' w' h => wpOp_mono (fun a2 w2 h2 => ⟨h2.1, h2.2, h2.1⟩) (hA1 a' w' h.1 h.2)) (fun a' w' ⟨⟨g, h⟩, hs⟩ => wpOp_mono (fun a2 w2 h2 => ⟨h2.1, ⟨g, h2.2⟩, h2.1⟩) (hC1 _ a' w' h hs)) s2
  have s0 := chain_step (J := fun a' w' => G0 a undef a' w' ∧ S w') (K := fun a' w' => (∃ g : Nat, G0 a (.pointer (some ⟨g, 0, none⟩)) a' w') ∧ S w') ne0 r0 q0 (fun a' w' h => wpOp_mono (fun a2 w2 h2 => ⟨h2.1, h2.2, h2.1⟩) (hC0 undef a' w' h.1 h.2)) (fun a' w' h => wpOp_mono (fun a2 w2 h2 => ⟨h2.1, h2.2, h2.1⟩) (hA0 a' w' h.1 h.2)) (fun a' w' ⟨⟨g, h⟩, hs⟩ => wpOp_mono (fun a2 w2 h2 => ⟨h2.1, ⟨g, h2.2⟩, h2.1⟩) (hC0 _ a' w' h hs)) s1
  exact s0.1 a w ⟨h0, hs⟩
theorem chain5 {P : Program} {md : Region.Mode} {ops : Array Oper} {Q : Exit → Act → World → Prop} {S : World → Prop} {f : Nat} {L : Array Bool} {a : Act} {w : World} (c0 c1 c2 c3 c4 al : Nat) (G0 G1 G2 G3 G4 G5 : Act → Value → Act → World → Prop)
    (ne0 : c0 ≠ al) (ne1 : c1 ≠ al) (ne2 : c2 ≠ al) (ne3 : c3 ≠ al) (ne4 : c4 ≠ al)
    (r0 : Region.ready md ops L = [c0, al]) (q0 : Region.ready md ops (L.setIfInBounds al true) = [c0])
    (r1 : Region.ready md ops (L.setIfInBounds c0 true) = [c1, al]) (q1 : Region.ready md ops ((L.setIfInBounds c0 true).setIfInBounds al true) = [c1])
    (r2 : Region.ready md ops ((L.setIfInBounds c0 true).setIfInBounds c1 true) = [c2, al]) (q2 : Region.ready md ops (((L.setIfInBounds c0 true).setIfInBounds c1 true).setIfInBounds al true) = [c2])
    (r3 : Region.ready md ops (((L.setIfInBounds c0 true).setIfInBounds c1 true).setIfInBounds c2 true) = [c3, al]) (q3 : Region.ready md ops ((((L.setIfInBounds c0 true).setIfInBounds c1 true).setIfInBounds c2 true).setIfInBounds al true) = [c3])
    (r4 : Region.ready md ops ((((L.setIfInBounds c0 true).setIfInBounds c1 true).setIfInBounds c2 true).setIfInBounds c3 true) = [c4, al]) (q4 : Region.ready md ops (((((L.setIfInBounds c0 true).setIfInBounds c1 true).setIfInBounds c2 true).setIfInBounds c3 true).setIfInBounds al true) = [c4])
    (hC0 : ∀ x a' w', G0 a x a' w' → S w' → wpOp P ops Q c0 (fun a2 w2 => S w2 ∧ G1 a x a2 w2) a' w')
    (hC1 : ∀ x a' w', G1 a x a' w' → S w' → wpOp P ops Q c1 (fun a2 w2 => S w2 ∧ G2 a x a2 w2) a' w')
    (hC2 : ∀ x a' w', G2 a x a' w' → S w' → wpOp P ops Q c2 (fun a2 w2 => S w2 ∧ G3 a x a2 w2) a' w')
    (hC3 : ∀ x a' w', G3 a x a' w' → S w' → wpOp P ops Q c3 (fun a2 w2 => S w2 ∧ G4 a x a2 w2) a' w')
    (hC4 : ∀ x a' w', G4 a x a' w' → S w' → wpOp P ops Q c4 (fun a2 w2 => S w2 ∧ G5 a x a2 w2) a' w')
    (hA0 : ∀ a' w', G0 a undef a' w' → S w' → wpOp P ops Q al (fun a2 w2 => S w2 ∧ ∃ g : Nat, G0 a (.pointer (some ⟨g, 0, none⟩)) a2 w2) a' w')
    (hA1 : ∀ a' w', G1 a undef a' w' → S w' → wpOp P ops Q al (fun a2 w2 => S w2 ∧ ∃ g : Nat, G1 a (.pointer (some ⟨g, 0, none⟩)) a2 w2) a' w')
    (hA2 : ∀ a' w', G2 a undef a' w' → S w' → wpOp P ops Q al (fun a2 w2 => S w2 ∧ ∃ g : Nat, G2 a (.pointer (some ⟨g, 0, none⟩)) a2 w2) a' w')
    (hA3 : ∀ a' w', G3 a undef a' w' → S w' → wpOp P ops Q al (fun a2 w2 => S w2 ∧ ∃ g : Nat, G3 a (.pointer (some ⟨g, 0, none⟩)) a2 w2) a' w')
    (hA4 : ∀ a' w', G4 a undef a' w' → S w' → wpOp P ops Q al (fun a2 w2 => S w2 ∧ ∃ g : Nat, G4 a (.pointer (some ⟨g, 0, none⟩)) a2 w2) a' w')
    (tJ : ∀ a' w', G5 a undef a' w' → S w' → wpAnyH P md ops Q S (f + 1) (((((L.setIfInBounds c0 true).setIfInBounds c1 true).setIfInBounds c2 true).setIfInBounds c3 true).setIfInBounds c4 true) a' w')
    (tK : ∀ g a' w', G5 a (.pointer (some ⟨g, 0, none⟩)) a' w' → S w' → wpAnyH P md ops Q S f ((((((L.setIfInBounds c0 true).setIfInBounds c1 true).setIfInBounds c2 true).setIfInBounds c3 true).setIfInBounds c4 true).setIfInBounds al true) a' w')
    (h0 : G0 a undef a w) (hs : S w) : wpAnyH P md ops Q S (f + 5 + 1) L a w := by
  have s5 : (∀ a' w', (G5 a undef a' w' ∧ S w') → wpAnyH P md ops Q S (f + 1) (((((L.setIfInBounds c0 true).setIfInBounds c1 true).setIfInBounds c2 true).setIfInBounds c3 true).setIfInBounds c4 true) a' w') ∧ ∀ a' w', ((∃ g : Nat, G5 a (.pointer (some ⟨g, 0, none⟩)) a' w') ∧ S w') → wpAnyH P md ops Q S f ((((((L.setIfInBounds c0 true).setIfInBounds c1 true).setIfInBounds c2 true).setIfInBounds c3 true).setIfInBounds c4 true).setIfInBounds al true) a' w' := ⟨fun a' w' h => tJ a' w' h.1 h.2, fun a' w' ⟨⟨g, h⟩, hs⟩ => tK g a' w' h hs⟩
  have s4 := chain_step (J := fun a' w' => G4 a undef a' w' ∧ S w') (K := fun a' w' => (∃ g : Nat, G4 a (.pointer (some ⟨g, 0, none⟩)) a' w') ∧ S w') ne4 r4 q4 (fun a' w' h => wpOp_mono (fun a2 w2 h2 => ⟨h2.1, h2.2, h2.1⟩) (hC4 undef a' w' h.1 h.2)) (fun a' w' h => wpOp_mono (fun a2 w2 h2 => ⟨h2.1, h2.2, h2.1⟩) (hA4 a' w' h.1 h.2)) (fun a' w' ⟨⟨g, h⟩, hs⟩ => wpOp_mono (fun a2 w2 h2 => ⟨h2.1, ⟨g, h2.2⟩, h2.1⟩) (hC4 _ a' w' h hs)) s5
  have s3 := chain_step (J := fun a' w' => G3 a undef a' w' ∧ S w') (K := fun a' w' => (∃ g : Nat, G3 a (.pointer (some ⟨g, 0, none⟩)) a' w') ∧ S w') ne3 r3 q3 (fun a' w' h => wpOp_mono (fun a2 w2 h2 => ⟨h2.1, h2.2, h2.1⟩) (hC3 undef a' w' h.1 h.2)) (fun a' w' h => wpOp_mono (fun a2 w2 h2 => ⟨h2.1, h2.2, h2.1⟩) (hA3 a' w' h.1 h.2)) (fun a' w' ⟨⟨g, h⟩, hs⟩ => wpOp_mono (fun a2 w2 h2 => ⟨h2.1, ⟨g, h2.2⟩, h2.1⟩) (hC3 _ a' w' h hs)) s4
  have s2 := chain_step (J := fun a' w' => G2 a undef a' w' ∧ S w') (K := fun a' w' => (∃ g : Nat, G2 a (.pointer (some ⟨g, 0, none⟩)) a' w') ∧ S w') ne2 r2 q2 (fun a' w' h => wpOp_mono (fun a2 w2 h2 => ⟨h2.1, h2.2, h2.1⟩) (hC2 undef a' w' h.1 h.2)) (fun a' w' h => wpOp_mono (fun a2 w2 h2 => ⟨h2.1, h2.2, h2.1⟩) (hA2 a' w' h.1 h.2)) (fun a' w' ⟨⟨g, h⟩, hs⟩ => wpOp_mono (fun a2 w2 h2 => ⟨h2.1, ⟨g, h2.2⟩, h2.1⟩) (hC2 _ a' w' h hs)) s3
  have s1 := chain_step (J := fun a' w' => G1 a undef a' w' ∧ S w') (K := fun a' w' => (∃ g : Nat, G1 a (.pointer (some ⟨g, 0, none⟩)) a' w') ∧ S w') ne1 r1 q1 (fun a' w' h => wpOp_mono (fun a2 w2 h2 => ⟨h2.1, h2.2, h2.1⟩) (hC1 undef a' w' h.1 h.2)) (fun a' w' h => wpOp_mono (fun a2 w2 h2 => ⟨h2.1, h2.2, h2.1⟩) (hA1 a' w' h.1 h.2)) (fun a' w' ⟨⟨g, h⟩, hs⟩ => wpOp_mono (fun a2 w2 h2 => ⟨h2.1, ⟨g, h2.2⟩, h2.1⟩) (hC1 _ a' w' h hs)) s2
  have s0 := chain_step (J := fun a' w' => G0 a undef a' w' ∧ S w') (K := fun a' w' => (∃ g : Nat, G0 a (.pointer (some ⟨g, 0, none⟩)) a' w') ∧ S w') ne0 r0 q0 (fun a' w' h => wpOp_mono (fun a2 w2 h2 => ⟨h2.1, h2.2, h2.1⟩) (hC0 undef a' w' h.1 h.2)) (fun a' w' h => wpOp_mono (fun a2 w2 h2 => ⟨h2.1, h2.2, h2.1⟩) (hA0 a' w' h.1 h.2)) (fun a' w' ⟨⟨g, h⟩, hs⟩ => wpOp_mono (fun a2 w2 h2 => ⟨h2.1, ⟨g, h2.2⟩, h2.1⟩) (hC0 _ a' w' h hs)) s1
  exact s0.1 a w ⟨h0, hs⟩
theorem chain6 {P : Program} {md : Region.Mode} {ops : Array Oper} {Q : Exit → Act → World → Prop} {S : World → Prop} {f : Nat} {L : Array Bool} {a : Act} {w : World} (c0 c1 c2 c3 c4 c5 al : Nat) (G0 G1 G2 G3 G4 G5 G6 : Act → Value → Act → World → Prop)
    (ne0 : c0 ≠ al) (ne1 : c1 ≠ al) (ne2 : c2 ≠ al) (ne3 : c3 ≠ al) (ne4 : c4 ≠ al) (ne5 : c5 ≠ al)
    (r0 : Region.ready md ops L = [c0, al]) (q0 : Region.ready md ops (L.setIfInBounds al true) = [c0])
    (r1 : Region.ready md ops (L.setIfInBounds c0 true) = [c1, al]) (q1 : Region.ready md ops ((L.setIfInBounds c0 true).setIfInBounds al true) = [c1])
    (r2 : Region.ready md ops ((L.setIfInBounds c0 true).setIfInBounds c1 true) = [c2, al]) (q2 : Region.ready md ops (((L.setIfInBounds c0 true).setIfInBounds c1 true).setIfInBounds al true) = [c2])
    (r3 : Region.ready md ops (((L.setIfInBounds c0 true).setIfInBounds c1 true).setIfInBounds c2 true) = [c3, al]) (q3 : Region.ready md ops ((((L.setIfInBounds c0 true).setIfInBounds c1 true).setIfInBounds c2 true).setIfInBounds al true) = [c3])
    (r4 : Region.ready md ops ((((L.setIfInBounds c0 true).setIfInBounds c1 true).setIfInBounds c2 true).setIfInBounds c3 true) = [c4, al]) (q4 : Region.ready md ops (((((L.setIfInBounds c0 true).setIfInBounds c1 true).setIfInBounds c2 true).setIfInBounds c3 true).setIfInBounds al true) = [c4])
    (r5 : Region.ready md ops (((((L.setIfInBounds c0 true).setIfInBounds c1 true).setIfInBounds c2 true).setIfInBounds c3 true).setIfInBounds c4 true) = [c5, al]) (q5 : Region.ready md ops ((((((L.setIfInBounds c0 true).setIfInBounds c1 true).setIfInBounds c2 true).setIfInBounds c3 true).setIfInBounds c4 true).setIfInBounds al true) = [c5])
    (hC0 : ∀ x a' w', G0 a x a' w' → S w' → wpOp P ops Q c0 (fun a2 w2 => S w2 ∧ G1 a x a2 w2) a' w')
    (hC1 : ∀ x a' w', G1 a x a' w' → S w' → wpOp P ops Q c1 (fun a2 w2 => S w2 ∧ G2 a x a2 w2) a' w')
    (hC2 : ∀ x a' w', G2 a x a' w' → S w' → wpOp P ops Q c2 (fun a2 w2 => S w2 ∧ G3 a x a2 w2) a' w')
    (hC3 : ∀ x a' w', G3 a x a' w' → S w' → wpOp P ops Q c3 (fun a2 w2 => S w2 ∧ G4 a x a2 w2) a' w')
    (hC4 : ∀ x a' w', G4 a x a' w' → S w' → wpOp P ops Q c4 (fun a2 w2 => S w2 ∧ G5 a x a2 w2) a' w')
    (hC5 : ∀ x a' w', G5 a x a' w' → S w' → wpOp P ops Q c5 (fun a2 w2 => S w2 ∧ G6 a x a2 w2) a' w')
    (hA0 : ∀ a' w', G0 a undef a' w' → S w' → wpOp P ops Q al (fun a2 w2 => S w2 ∧ ∃ g : Nat, G0 a (.pointer (some ⟨g, 0, none⟩)) a2 w2) a' w')
    (hA1 : ∀ a' w', G1 a undef a' w' → S w' → wpOp P ops Q al (fun a2 w2 => S w2 ∧ ∃ g : Nat, G1 a (.pointer (some ⟨g, 0, none⟩)) a2 w2) a' w')
    (hA2 : ∀ a' w', G2 a undef a' w' → S w' → wpOp P ops Q al (fun a2 w2 => S w2 ∧ ∃ g : Nat, G2 a (.pointer (some ⟨g, 0, none⟩)) a2 w2) a' w')
    (hA3 : ∀ a' w', G3 a undef a' w' → S w' → wpOp P ops Q al (fun a2 w2 => S w2 ∧ ∃ g : Nat, G3 a (.pointer (some ⟨g, 0, none⟩)) a2 w2) a' w')
    (hA4 : ∀ a' w', G4 a undef a' w' → S w' → wpOp P ops Q al (fun a2 w2 => S w2 ∧ ∃ g : Nat, G4 a (.pointer (some ⟨g, 0, none⟩)) a2 w2) a' w')
    (hA5 : ∀ a' w', G5 a undef a' w' → S w' → wpOp P ops Q al (fun a2 w2 => S w2 ∧ ∃ g : Nat, G5 a (.pointer (some ⟨g, 0, none⟩)) a2 w2) a' w')
    (tJ : ∀ a' w', G6 a undef a' w' → S w' → wpAnyH P md ops Q S (f + 1) ((((((L.setIfInBounds c0 true).setIfInBounds c1 true).setIfInBounds c2 true).setIfInBounds c3 true).setIfInBounds c4 true).setIfInBounds c5 true) a' w')
    (tK : ∀ g a' w', G6 a (.pointer (some ⟨g, 0, none⟩)) a' w' → S w' → wpAnyH P md ops Q S f (((((((L.setIfInBounds c0 true).setIfInBounds c1 true).setIfInBounds c2 true).setIfInBounds c3 true).setIfInBounds c4 true).setIfInBounds c5 true).setIfInBounds al true) a' w')
    (h0 : G0 a undef a w) (hs : S w) : wpAnyH P md ops Q S (f + 6 + 1) L a w := by
  have s6 : (∀ a' w', (G6 a undef a' w' ∧ S w') → wpAnyH P md ops Q S (f + 1) ((((((L.setIfInBounds c0 true).setIfInBounds c1 true).setIfInBounds c2 true).setIfInBounds c3 true).setIfInBounds c4 true).setIfInBounds c5 true) a' w') ∧ ∀ a' w', ((∃ g : Nat, G6 a (.pointer (some ⟨g, 0, none⟩)) a' w') ∧ S w') → wpAnyH P md ops Q S f (((((((L.setIfInBounds c0 true).setIfInBounds c1 true).setIfInBounds c2 true).setIfInBounds c3 true).setIfInBounds c4 true).setIfInBounds c5 true).setIfInBounds al true) a' w' := ⟨fun a' w' h => tJ a' w' h.1 h.2, fun a' w' ⟨⟨g, h⟩, hs⟩ => tK g a' w' h hs⟩
  have s5 := chain_step (J := fun a' w' => G5 a undef a' w' ∧ S w') (K := fun a' w' => (∃ g : Nat, G5 a (.pointer (some ⟨g, 0, none⟩)) a' w') ∧ S w') ne5 r5 q5 (fun a' w' h => wpOp_mono (fun a2 w2 h2 => ⟨h2.1, h2.2, h2.1⟩) (hC5 undef a' w' h.1 h.2)) (fun a' w' h => wpOp_mono (fun a2 w2 h2 => ⟨h2.1, h2.2, h2.1⟩) (hA5 a' w' h.1 h.2)) (fun a' w' ⟨⟨g, h⟩, hs⟩ => wpOp_mono (fun a2 w2 h2 => ⟨h2.1, ⟨g, h2.2⟩, h2.1⟩) (hC5 _ a' w' h hs)) s6
  have s4 := chain_step (J := fun a' w' => G4 a undef a' w' ∧ S w') (K := fun a' w' => (∃ g : Nat, G4 a (.pointer (some ⟨g, 0, none⟩)) a' w') ∧ S w') ne4 r4 q4 (fun a' w' h => wpOp_mono (fun a2 w2 h2 => ⟨h2.1, h2.2, h2.1⟩) (hC4 undef a' w' h.1 h.2)) (fun a' w' h => wpOp_mono (fun a2 w2 h2 => ⟨h2.1, h2.2, h2.1⟩) (hA4 a' w' h.1 h.2)) (fun a' w' ⟨⟨g, h⟩, hs⟩ => wpOp_mono (fun a2 w2 h2 => ⟨h2.1, ⟨g, h2.2⟩, h2.1⟩) (hC4 _ a' w' h hs)) s5
  have s3 := chain_step (J := fun a' w' => G3 a undef a' w' ∧ S w') (K := fun a' w' => (∃ g : Nat, G3 a (.pointer (some ⟨g, 0, none⟩)) a' w') ∧ S w') ne3 r3 q3 (fun a' w' h => wpOp_mono (fun a2 w2 h2 => ⟨h2.1, h2.2, h2.1⟩) (hC3 undef a' w' h.1 h.2)) (fun a' w' h => wpOp_mono (fun a2 w2 h2 => ⟨h2.1, h2.2, h2.1⟩) (hA3 a' w' h.1 h.2)) (fun a' w' ⟨⟨g, h⟩, hs⟩ => wpOp_mono (fun a2 w2 h2 => ⟨h2.1, ⟨g, h2.2⟩, h2.1⟩) (hC3 _ a' w' h hs)) s4
  have s2 := chain_step (J := fun a' w' => G2 a undef a' w' ∧ S w') (K := fun a' w' => (∃ g : Nat, G2 a (.pointer (some ⟨g, 0, none⟩)) a' w') ∧ S w') ne2 r2 q2 (fun a' w' h => wpOp_mono (fun a2 w2 h2 => ⟨h2.1, h2.2, h2.1⟩) (hC2 undef a' w' h.1 h.2)) (fun a' w' h => wpOp_mono (fun a2 w2 h2 => ⟨h2.1, h2.2, h2.1⟩) (hA2 a' w' h.1 h.2)) (fun a' w' ⟨⟨g, h⟩, hs⟩ => wpOp_mono (fun a2 w2 h2 => ⟨h2.1, ⟨g, h2.2⟩, h2.1⟩) (hC2 _ a' w' h hs)) s3
  have s1 := chain_step (J := fun a' w' => G1 a undef a' w' ∧ S w') (K := fun a' w' => (∃ g : Nat, G1 a (.pointer (some ⟨g, 0, none⟩)) a' w') ∧ S w') ne1 r1 q1 (fun a' w' h => wpOp_mono (fun a2 w2 h2 => ⟨h2.1, h2.2, h2.1⟩) (hC1 undef a' w' h.1 h.2)) (fun a' w' h => wpOp_mono (fun a2 w2 h2 => ⟨h2.1, h2.2, h2.1⟩) (hA1 a' w' h.1 h.2)) (fun a' w' ⟨⟨g, h⟩, hs⟩ => wpOp_mono (fun a2 w2 h2 => ⟨h2.1, ⟨g, h2.2⟩, h2.1⟩) (hC1 _ a' w' h hs)) s2
  have s0 := chain_step (J := fun a' w' => G0 a undef a' w' ∧ S w') (K := fun a' w' => (∃ g : Nat, G0 a (.pointer (some ⟨g, 0, none⟩)) a' w') ∧ S w') ne0 r0 q0 (fun a' w' h => wpOp_mono (fun a2 w2 h2 => ⟨h2.1, h2.2, h2.1⟩) (hC0 undef a' w' h.1 h.2)) (fun a' w' h => wpOp_mono (fun a2 w2 h2 => ⟨h2.1, h2.2, h2.1⟩) (hA0 a' w' h.1 h.2)) (fun a' w' ⟨⟨g, h⟩, hs⟩ => wpOp_mono (fun a2 w2 h2 => ⟨h2.1, ⟨g, h2.2⟩, h2.1⟩) (hC0 _ a' w' h hs)) s1
  exact s0.1 a w ⟨h0, hs⟩

end Go.Proofs.YtlhmemnaiobgkaaGreatDoor.Mem

/- Chapter 16: a need's cells in a slice, as a region holds them. -/
namespace Go.Proofs.YtlhmemnaiobgkaaGreatDoor.Se
open Go.RowKit Go.Proofs.YtlhmemnaiobgkaaGreatDoor.Mem Go.Proofs.YtlhmemnaiobgkaaGreatDoor.Laws Go.Proofs.YtlhmemnaiobgkaaGreatDoor.Ver Go.Proofs.YtlhmemnaiobgkaaGreatDoor.Ent Go.Proofs.YtlhmemnaiobgkaaGreatDoor.Fe
set_option linter.unusedVariables false
set_option linter.unusedSimpArgs false

def S5 (b o : Nat) (x : Nd) (w' : World) : Prop := w'.cell? ⟨b, o, none⟩ = some (.string x.path) ∧ w'.cell? ⟨b, o + 1, none⟩ = some (.int .i64 x.a) ∧ w'.cell? ⟨b, o + 2, none⟩ = some (.int .i64 x.b) ∧ w'.cell? ⟨b, o + 3, none⟩ = some (.int .i64 x.c) ∧ w'.cell? ⟨b, o + 4, none⟩ = some (.string x.pre)
theorem S5.keep {b o : Nat} {x : Nd} {W W' : World} (h : S5 b o x W) (hb : Below W.heap.size W W') : S5 b o x W' := ⟨keepR h.1 hb, keepR h.2.1 hb, keepR h.2.2.1 hb, keepR h.2.2.2.1 hb, keepR h.2.2.2.2 hb⟩

theorem od_gro9 {w w' : World} {lo hi g : Nat} {v : Value} {l : List Nd} (h : Od w lo hi v l) (gr : w.grownBy w' (some g)) (hr : ∀ k, some g = some k → k < lo ∨ hi ≤ k) : Od w' lo hi v l :=
  On.keep1 h (fun j hj => gr.block j (On.lt h hj).2.2 (fun e9 => by have h1 := On.lt h hj; have h2 := hr j (by rw [← e9]); omega))

end Go.Proofs.YtlhmemnaiobgkaaGreatDoor.Se
