/- Texts in one: Sr4, Cl2, Chn. -/
import Derived.Test.YtfpaichdkddglaaGreatDoorPk14
import Derived.Test.YtfpaichdkddglaaGreatDoorPk8
import Derived.Test.YtfpaichdkddglaaGreatDoorPk5
import Derived.BigQuiet
import Derived.Deep.RegionHeld3
namespace Go.Proofs.YtfpaichdkddglaaGreatDoor.Sr
open Go.RowKit Go.Proofs.YtfpaichdkddglaaGreatDoor.Mem Go.Proofs.YtfpaichdkddglaaGreatDoor.He Go.Proofs.YtfpaichdkddglaaGreatDoor.Lg
set_option linter.unusedVariables false
theorem open_short (t : List Hd) {xs : List Int} (h : xs.length ≤ 60000) : (openS t xs).1.l = (openF xs.length t xs 0 new12 0).1.l ∧ (openS t xs).1.h = (openF xs.length t xs 0 new12 0).1.h := by
 unfold openS
 rw [List.take_of_length_le h]
 exact ⟨rfl, rfl⟩
theorem open_pre (t : List Hd) {b : List Int} (hb : Byt b) (hl : b.length ≤ 60000) {k m : Nat} (hk : k ≤ m) : (openS t (b.take k)).1.l <+: (openS t (b.take m)).1.l := by
 have e : b.take k = (b.take m).take k := by rw [List.take_take, Nat.min_eq_left hk]
 have l1 : (b.take k).length ≤ 60000 := by rw [List.length_take]; omega
 have l2 : (b.take m).length ≤ 60000 := by rw [List.length_take]; omega
 rw [(open_short t l1).1, (open_short t l2).1, e]
 exact open_front t (b.take m) k (fun y hy => hb y (List.mem_of_mem_take hy)) _ _ 0 new12 0 (Nat.zero_le _) (by omega)
theorem open_whole {t : List Hd} {st : Sto} (hm : Made t st) (hl : st.b.length ≤ 60000) : (openS t st.b).1.l = st.l ∧ (openS t st.b).1.h = st.h := by
 obtain ⟨h1, h2, _⟩ := hm.2 st.b.length (Nat.le_refl _)
 rw [(open_short t hl).1, (open_short t hl).2]
 exact ⟨h1, h2⟩
theorem fall_le (st : Sto) (keep : Int) : fallN st 0 ≤ fallN st keep ∧ fallN st keep ≤ st.b.length := by
 unfold fallN
 simp only
 omega
theorem recov {t : List Hd} {A : Nat} {st : Sto} (hd : Dst t A 0 st) (m : Nat) :
  storeOk st = true ∧ storeOk (openS t (fall st (m : Int))).1 = true ∧ (openS t (fall st (m : Int))).1.s = ((openS t (fall st (m : Int))).1.b.length : Int) ∧
  (openS t (fall st 0)).1.l <+: (openS t (fall st (m : Int))).1.l ∧ (openS t (fall st (m : Int))).1.l <+: st.l ∧ (openS t (fall (makeSure st) 0)).1.l = st.l ∧ (openS t (fall (makeSure st) 0)).1.h = st.h := by
 have hb := hd.made.1.2.2
 have hl : st.b.length ≤ 60000 := by have := hd.bl; omega
 have hok : storeOk st = true := good_ok hd.made.1 hl ⟨hd.lo, hd.hi⟩
 have hf : ∀ k, Byt (fall st k) := fun k y hy => hb y (List.mem_of_mem_take hy)
 have w := open_whole hd.made hl
 have e : fall (makeSure st) 0 = st.b := by
  unfold makeSure
  rw [if_pos hok]
  unfold fall fallN
  simp only
  rw [List.take_of_length_le]
  simp
 refine ⟨hok, (openS_ok t (hf _)).1, (openS_ok t (hf _)).2, open_pre t hb hl (fall_le st _).1, ?_, by rw [e]; exact w.1, by rw [e]; exact w.2⟩
 have h9 := open_pre t hb hl (fall_le st (m : Int)).2
 rw [List.take_length, w.1] at h9
 exact h9
theorem open_small (t : List Hd) {xs : List Int} (hb : Byt xs) : (openS t xs).1.l.length ≤ 200 ∧ (openS t xs).1.b.length ≤ 60000 ∧ (openS t xs).1.h.r.size ≤ 32 := by
 obtain ⟨h1, h2, _⟩ := ok_parts (openS_ok t hb).1
 refine ⟨(logOk_yes h1).1, h2, ?_⟩
 rw [(logOk_yes h1).2]
 exact headOf_size _
theorem ok_good_byt (t : List Hd) {xs : List Int} (hb : Byt xs) : Byt (openS t xs).1.b := by
 have hb2 : Byt (xs.take 60000) := fun y hy => hb y (List.mem_of_mem_take hy)
 have := (open_good t (xs.take 60000) hb2 (xs.take 60000).length 0 new12 0 good_new (Nat.le_refl _) (Nat.zero_le _)).1.2.2
 exact this
end Go.Proofs.YtfpaichdkddglaaGreatDoor.Sr
namespace Go.Proofs.YtfpaichdkddglaaGreatDoor.Cl
open Go.RowKit Go.Proofs.YtfpaichdkddglaaGreatDoor.Mem Go.Proofs.YtfpaichdkddglaaGreatDoor.Laws Go.Proofs.YtfpaichdkddglaaGreatDoor.Bytes Go.Proofs.YtfpaichdkddglaaGreatDoor.Sha Go.Proofs.YtfpaichdkddglaaGreatDoor.Tr
set_option linter.unusedVariables false
set_option linter.unusedSimpArgs false
theorem beq_no {a b : ByteArray} (h : a ≠ b) : (a.toList == b.toList) = false := by
 rw [beq_eq_false_iff_ne, ByteArray.toList_eq, ByteArray.toList_eq]
 intro e
 apply h
 cases a
 cases b
 simp only at e
 rw [Array.ext' e]
theorem Sl.form {w : World} {v : Value} {cs : List Value} (h : Sl w v cs) : ∃ (ao : Option Addr) (cap : Nat), v = .slice ao cs.length cap ∧ cs.length ≤ cap := by
 obtain ⟨ao, cap, rfl, hc, _⟩ := h
 exact ⟨ao, cap, rfl, hc⟩
set_option maxRecDepth 1000000 in
set_option maxHeartbeats 1000000 in
theorem same_impl (w : World) (v1 v2 : Value) (l m : List ByteArray) (t : Bool) (ht : t = true ↔ l = m) (h1 : Sl w v1 (ss l)) (h2 : Sl w v2 (ss m)) (hl : l.length ≤ 1000000000000) (hm : m.length ≤ 1000000000000) :
  Calls Tryz.prog 59 #[v1, v2] w fun e w' => e = .returned (.bool t) ∧ (∀ B, Below B w w') ∧ w'.heap.size = w.heap.size := by
 obtain ⟨ao, cap, rfl, hc1, _, hr1⟩ := h1
 obtain ⟨bo, cap2, rfl, hc2, _, hr2⟩ := h2
 rw [ss_len] at hr1 hr2 hc1 hc2
 rw [ss_len, ss_len]
 have HT : Hid (t = true ↔ l = m) := ht
 clear ht
 by_cases hlm : l.length = m.length
 ·
  have dn : ((l.length : Int) == (m.length : Int)) = true := by rw [beq_iff_eq]; omega
  have HLM : Hid (l.length = m.length) := hlm
  have hlm1 : l.length ≤ m.length := by omega
  have hlm2 : m.length ≤ l.length := by omega
  clear hlm
  go_enter Tryz.func59, Tryz.ntmps59
  go_wp2
  go_loopw [13] (fun i wr => ∃ k n : Nat, k ≤ l.length ∧ i = .int .i64 k ∧ Hid (l.take k = m.take k) ∧ wr = w.drewN n) (fun i _ => l.length - (intOf i).toNat)
  case atStart => exact ⟨0, 0, Nat.zero_le _, rfl, rfl, rfl⟩
  case round =>
   obtain ⟨k, n, hk, rfl, HK, rfl⟩ := hrel
   by_cases hlt : k < l.length
   ·
    obtain ⟨b, off, s, rfl, hx0, hcell⟩ := Sl.strAt hr1 rfl hlt
    obtain ⟨b2, off2, s2, rfl, hy0, hcell2⟩ := Sl.strAt hr2 rfl (show k < m.length by omega)
    have hlt' : (k : Int) < (m.length : Int) := by omega
    by_cases hst : s = s2
    ·
     subst hst
     have HN : Hid (l.take (k + 1) = m.take (k + 1)) := by
      show _ = _
      rw [List.take_add_one, List.take_add_one, HK.out, hx0, hy0]
     clear hx0 hy0 hr1 hr2 HK
     go_wp2
     go_quiet (fail)
     go_wp2
     go_roundw
     case rel => exact ⟨k + 1, n + nq, by omega, by go_num, HN, rfl⟩
     case measure => simp [intOf]; omega
    ·
     have HF : Hid (t = false) := by
      show _ = _
      cases t with
      | false => rfl
      | true =>
       have e := HT.out.1 rfl
       subst e
       rw [hx0] at hy0
       exact absurd (Option.some.inj hy0) hst
     have dq := beq_no hst
     clear hx0 hy0 hr1 hr2 HK hst
     go_wp2
     go_quiet (fail)
     go_wp2
     go_ret
     exact ⟨by rw [HF.out]; rfl, fun B => below_drewN (below_drewN (Below.refl _ _) _) _, rfl⟩
   ·
    have HF : Hid (t = true) := by
     show _ = _
     refine HT.out.2 ?_
     have h := HK.out
     rwa [List.take_of_length_le (by omega), List.take_of_length_le (by omega)] at h
    clear hr1 hr2 HK
    go_wp2
    go_ret
    exact ⟨by rw [HF.out]; rfl, fun B => below_drewN (Below.refl _ _) n, rfl⟩
 ·
  have HF : Hid (t = false) := by
   show _ = _
   cases t with
   | false => rfl
   | true => exact absurd (congrArg List.length (HT.out.1 rfl)) hlm
  have dn : ((l.length : Int) == (m.length : Int)) = false := by rw [beq_eq_false_iff_ne]; omega
  clear hr1 hr2 hlm
  go_enter Tryz.func59, Tryz.ntmps59
  go_wp2
  go_ret
  exact ⟨by rw [HF.out]; rfl, fun B => Below.refl _ _, rfl⟩
end Go.Proofs.YtfpaichdkddglaaGreatDoor.Cl
namespace Go.Proofs.YtfpaichdkddglaaGreatDoor.Mem
open Go.RowKit
set_option linter.unusedVariables false
set_option linter.unusedSimpArgs false
theorem wpOp_weak {P : Program} {ops : Array Oper} {Q : Exit → Act → World → Prop} {i : Nat} {o : Oper} {K : Act → World → Prop} {a : Act} {w : World} (ho : ops[i]? = some o)
  (h : ∀ K' : Act → World → Prop, Hid (∀ a' w', K a' w' → K' a' w') → if Region.wanted o (yielded ops a.tmps) = true then Oper.wp P o a w K' Q else K' (a.put o.dst undef) w) : wpOp P ops Q i K a w := by
 have h1 := h K (fun _ _ h => h)
 unfold wpOp
 rw [ho]
 simp only
 split
 ·
  rename_i hw
  rw [if_pos hw] at h1
  exact Or.inl h1
 ·
  rename_i hw
  rw [if_neg hw] at h1
  exact h1
theorem wpAnyH_one {P : Program} {md : Region.Mode} {ops : Array Oper} {Q : Exit → Act → World → Prop} {S : World → Prop} {f i : Nat} {L : Array Bool} {a : Act} {w : World} (hr : Region.ready md ops L = [i])
  (h : wpOp P ops Q i (fun a' w' => S w' ∧ wpAnyH P md ops Q S f (L.setIfInBounds i true) a' w') a w) : wpAnyH P md ops Q S (f + 1) L a w := by
 refine ⟨fun h0 => (by rw [hr] at h0; cases h0), fun j hj => ?_⟩
 rw [hr] at hj
 obtain rfl := List.mem_singleton.1 hj
 exact h
theorem wpAnyH_two {P : Program} {md : Region.Mode} {ops : Array Oper} {Q : Exit → Act → World → Prop} {S : World → Prop} {f i k : Nat} {L : Array Bool} {a : Act} {w : World} (hr : Region.ready md ops L = [i, k])
  (h : wpOp P ops Q i (fun a' w' => S w' ∧ wpAnyH P md ops Q S f (L.setIfInBounds i true) a' w') a w) (h2 : wpOp P ops Q k (fun a' w' => S w' ∧ wpAnyH P md ops Q S f (L.setIfInBounds k true) a' w') a w) : wpAnyH P md ops Q S (f + 1) L a w := by
 refine ⟨fun h0 => (by rw [hr] at h0; cases h0), fun j hj => ?_⟩
 rw [hr] at hj
 rcases List.mem_cons.1 hj with rfl | hj
 ·
  exact h
 ·
  obtain rfl := List.mem_singleton.1 hj
  exact h2
theorem chain_step {P : Program} {md : Region.Mode} {ops : Array Oper} {Q : Exit → Act → World → Prop} {S : World → Prop} {f c al : Nat} {L : Array Bool} (hne : c ≠ al) (hr : Region.ready md ops L = [c, al]) (hm : Region.ready md ops (L.setIfInBounds al true) = [c])
  {J J' : Act → World → Prop} {K K' : Act → World → Prop} (hJ : ∀ a w, J a w → wpOp P ops Q c (fun a' w' => S w' ∧ J' a' w') a w) (hA : ∀ a w, J a w → wpOp P ops Q al (fun a' w' => S w' ∧ K a' w') a w) (hK : ∀ a w, K a w → wpOp P ops Q c (fun a' w' => S w' ∧ K' a' w') a w)
  (n : (∀ a w, J' a w → wpAnyH P md ops Q S (f + 1) (L.setIfInBounds c true) a w) ∧ ∀ a w, K' a w → wpAnyH P md ops Q S f ((L.setIfInBounds c true).setIfInBounds al true) a w) :
  (∀ a w, J a w → wpAnyH P md ops Q S (f + 2) L a w) ∧ ∀ a w, K a w → wpAnyH P md ops Q S (f + 1) (L.setIfInBounds al true) a w := by
 have k : ∀ a w, K a w → wpAnyH P md ops Q S (f + 1) (L.setIfInBounds al true) a w := fun a w h => by
  refine wpAnyH_one hm (wpOp_mono (fun a' w' h' => ⟨h'.1, ?_⟩) (hK a w h))
  rw [Array.setIfInBounds_comm _ _ (Ne.symm hne)]
  exact n.2 a' w' h'.2
 exact ⟨fun a w h => wpAnyH_two hr (wpOp_mono (fun a' w' h' => ⟨h'.1, n.1 a' w' h'.2⟩) (hJ a w h)) (wpOp_mono (fun a' w' h' => ⟨h'.1, k a' w' h'.2⟩) (hA a w h)), k⟩
theorem chain3 {P : Program} {md : Region.Mode} {ops : Array Oper} {Q : Exit → Act → World → Prop} {S : World → Prop} {f : Nat} {L : Array Bool} {a : Act} {w : World} (c0 c1 c2 al : Nat) (G0 G1 G2 G3 : Act → Value → Act → World → Prop)
  (ne0 : c0 ≠ al) (ne1 : c1 ≠ al) (ne2 : c2 ≠ al)
  (r0 : Region.ready md ops L = [c0, al]) (q0 : Region.ready md ops (L.setIfInBounds al true) = [c0])
  (r1 : Region.ready md ops (L.setIfInBounds c0 true) = [c1, al]) (q1 : Region.ready md ops ((L.setIfInBounds c0 true).setIfInBounds al true) = [c1])
  (r2 : Region.ready md ops ((L.setIfInBounds c0 true).setIfInBounds c1 true) = [c2, al]) (q2 : Region.ready md ops (((L.setIfInBounds c0 true).setIfInBounds c1 true).setIfInBounds al true) = [c2])
  (hC0 : ∀ x a' w', G0 a x a' w' → S w' → wpOp P ops Q c0 (fun a2 w2 => S w2 ∧ G1 a x a2 w2) a' w')
  (hC1 : ∀ x a' w', G1 a x a' w' → S w' → wpOp P ops Q c1 (fun a2 w2 => S w2 ∧ G2 a x a2 w2) a' w')
  (hC2 : ∀ x a' w', G2 a x a' w' → S w' → wpOp P ops Q c2 (fun a2 w2 => S w2 ∧ G3 a x a2 w2) a' w')
  (hA0 : ∀ a' w', G0 a undef a' w' → S w' → wpOp P ops Q al (fun a2 w2 => S w2 ∧ ∃ g : Nat, G0 a (.pointer (some ⟨g, 0, none⟩)) a2 w2) a' w')
  (hA1 : ∀ a' w', G1 a undef a' w' → S w' → wpOp P ops Q al (fun a2 w2 => S w2 ∧ ∃ g : Nat, G1 a (.pointer (some ⟨g, 0, none⟩)) a2 w2) a' w')
  (hA2 : ∀ a' w', G2 a undef a' w' → S w' → wpOp P ops Q al (fun a2 w2 => S w2 ∧ ∃ g : Nat, G2 a (.pointer (some ⟨g, 0, none⟩)) a2 w2) a' w')
  (tJ : ∀ a' w', G3 a undef a' w' → S w' → wpAnyH P md ops Q S (f + 1) (((L.setIfInBounds c0 true).setIfInBounds c1 true).setIfInBounds c2 true) a' w')
  (tK : ∀ g a' w', G3 a (.pointer (some ⟨g, 0, none⟩)) a' w' → S w' → wpAnyH P md ops Q S f ((((L.setIfInBounds c0 true).setIfInBounds c1 true).setIfInBounds c2 true).setIfInBounds al true) a' w')
  (h0 : G0 a undef a w) (hs : S w) : wpAnyH P md ops Q S (f + 3 + 1) L a w := by
 have s3 : (∀ a' w', (G3 a undef a' w' ∧ S w') → wpAnyH P md ops Q S (f + 1) (((L.setIfInBounds c0 true).setIfInBounds c1 true).setIfInBounds c2 true) a' w') ∧ ∀ a' w', ((∃ g : Nat, G3 a (.pointer (some ⟨g, 0, none⟩)) a' w') ∧ S w') → wpAnyH P md ops Q S f ((((L.setIfInBounds c0 true).setIfInBounds c1 true).setIfInBounds c2 true).setIfInBounds al true) a' w' := ⟨fun a' w' h => tJ a' w' h.1 h.2, fun a' w' ⟨⟨g, h⟩, hs⟩ => tK g a' w' h hs⟩
 have s2 := chain_step (J := fun a' w' => G2 a undef a' w' ∧ S w') (K := fun a' w' => (∃ g : Nat, G2 a (.pointer (some ⟨g, 0, none⟩)) a' w') ∧ S w') ne2 r2 q2 (fun a' w' h => wpOp_mono (fun a2 w2 h2 => ⟨h2.1, h2.2, h2.1⟩) (hC2 undef a' w' h.1 h.2)) (fun a' w' h => wpOp_mono (fun a2 w2 h2 => ⟨h2.1, h2.2, h2.1⟩) (hA2 a' w' h.1 h.2)) (fun a' w' ⟨⟨g, h⟩, hs⟩ => wpOp_mono (fun a2 w2 h2 => ⟨h2.1, ⟨g, h2.2⟩, h2.1⟩) (hC2 _ a' w' h hs)) s3
 have s1 := chain_step (J := fun a' w' => G1 a undef a' w' ∧ S w') (K := fun a' w' => (∃ g : Nat, G1 a (.pointer (some ⟨g, 0, none⟩)) a' w') ∧ S w') ne1 r1 q1 (fun a' w' h => wpOp_mono (fun a2 w2 h2 => ⟨h2.1, h2.2, h2.1⟩) (hC1 undef a' w' h.1 h.2)) (fun a' w' h => wpOp_mono (fun a2 w2 h2 => ⟨h2.1, h2.2, h2.1⟩) (hA1 a' w' h.1 h.2)) (fun a' w' ⟨⟨g, h⟩, hs⟩ => wpOp_mono (fun a2 w2 h2 => ⟨h2.1, ⟨g, h2.2⟩, h2.1⟩) (hC1 _ a' w' h hs)) s2
 have s0 := chain_step (J := fun a' w' => G0 a undef a' w' ∧ S w') (K := fun a' w' => (∃ g : Nat, G0 a (.pointer (some ⟨g, 0, none⟩)) a' w') ∧ S w') ne0 r0 q0 (fun a' w' h => wpOp_mono (fun a2 w2 h2 => ⟨h2.1, h2.2, h2.1⟩) (hC0 undef a' w' h.1 h.2)) (fun a' w' h => wpOp_mono (fun a2 w2 h2 => ⟨h2.1, h2.2, h2.1⟩) (hA0 a' w' h.1 h.2)) (fun a' w' ⟨⟨g, h⟩, hs⟩ => wpOp_mono (fun a2 w2 h2 => ⟨h2.1, ⟨g, h2.2⟩, h2.1⟩) (hC0 _ a' w' h hs)) s1
 exact s0.1 a w ⟨h0, hs⟩
end Go.Proofs.YtfpaichdkddglaaGreatDoor.Mem
