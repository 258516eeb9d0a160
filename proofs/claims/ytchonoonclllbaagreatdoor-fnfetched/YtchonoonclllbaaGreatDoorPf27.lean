/- Texts in one: KpF, HfO, LhA, LhN, LhO, KpG, KpH, HfB. -/
import Derived.Test.YtchonoonclllbaaGreatDoorPf26
namespace Go.Proofs.YtchonoonclllbaaGreatDoor.Sr
open Go.RowKit Go.Proofs.YtchonoonclllbaaGreatDoor.Mem Go.Proofs.YtchonoonclllbaaGreatDoor.Laws Go.Proofs.YtchonoonclllbaaGreatDoor.Bytes Go.Proofs.YtchonoonclllbaaGreatDoor.Sha Go.Proofs.YtchonoonclllbaaGreatDoor.Tr Go.Proofs.YtchonoonclllbaaGreatDoor.He Go.Proofs.YtchonoonclllbaaGreatDoor.Lg
set_option linter.unusedVariables false
set_option linter.unusedSimpArgs false
theorem getC_some {xs : List Int} {a : Nat} {h : Hd} {x : List ByteArray} {p : Int} (hb : Byt xs) (hg : getC xs (a : Int) = (h, x, p, true)) : ∃ q : Nat, p = (q : Int) ∧ a < q ∧ q ≤ xs.length ∧ 1 ≤ x.length ∧ x.length ≤ 200 := by
 obtain ⟨q, rfl, hq, hqx, _, h1, h2, _⟩ := put_get hb hg
 have := put_pos h x
 exact ⟨q, rfl, by omega, hqx, h1, h2⟩
theorem far_len {T x : List ByteArray} {m : Nat} (hm : m ≤ T.length) (hx : T.length - m < x.length) : ¬ (T.take m ++ x) <+: T := by
 intro h
 have := h.length_le
 rw [List.length_append, List.length_take] at this
 omega
theorem allE_take {T x : List ByteArray} {m : Nat} (h2 : T.length ≤ 200) (hm : m ≤ T.length) (hx : x <+: T.drop m) : Ed.allE (m : Int) (Ed.edge (T.take m)) x = (((m + x.length : Nat) : Int), Ed.edge (T.take (m + x.length)), true) := by
 obtain ⟨e1, e2⟩ := take_more hm hx
 have hl : (T.take m).length = m := by rw [List.length_take]; omega
 have := Ed.allE_edge (l := T.take m) (r := x) (by omega)
 rw [hl, e1, List.length_take] at this
 rw [this]
 congr 2
 omega
set_option maxRecDepth 1000000 in
set_option maxHeartbeats 8000000 in
theorem make_impl (w : World) (v vt : Value) (xs : List Int) (T : List ByteArray) (hG : Glob w) (hN : NoC w) (hs : Sl w v (bs xs)) (hb : Byt xs) (hx : xs.length ≤ 1000000000000) (ht : Sl w vt (ss T)) (h2 : T.length ≤ 200) :
  Calls Tryz.prog 70 #[v, vt] w fun e w' => e = .returned (.bool (fin12 xs T xs.length 0 [] (headOf []))) ∧ Below w.heap.size w w' := by
 obtain ⟨R, hR⟩ : ∃ R, fin12 xs T xs.length 0 [] (headOf []) = R := ⟨_, rfl⟩
 have HF0 : Hid (xs.length - 0 ≤ xs.length ∧ fin12 xs T xs.length 0 (T.take 0) (headOf []) = R) := ⟨by omega, hR⟩
 rw [hR]
 have HS : Hid (Sl w v (bs xs)) := hs
 have HT : Hid (Sl w vt (ss T)) := ht
 have HBY : Hid (Byt xs) := hb
 have HG : Hid (Glob w) := hG
 have HN : Hid (NoC w) := hN
 obtain ⟨ao0, cap0, rfl, hc0⟩ := hs.form
 obtain ⟨ao1, cap1, rfl, hc1, hn1, _⟩ := ht
 rw [ss_len] at *
 rw [bs_len] at *
 clear hs hb hR hG hN
 have B0 : Hid (Below w.heap.size w w) := Below.refl _ _
 obtain ⟨W1, HW1, b1, y1, hS1, r_made1⟩ := Ke.l1 w #[.int .i64 0, .slice none 0 0] 149
 have z1 := b1.size
 have B1 := Ke.b B0 b1
 by_cases hT0 : 0 < T.length
 ·
  obtain ⟨bT, offT, capT, he, hcapT⟩ := slForm HT.out (by rw [ss_len]; omega)
  simp only [Value.slice.injEq] at he
  obtain ⟨rfl, -, rfl⟩ := he
  clear hcapT hn1
  have qg : ∀ W, Below w.heap.size w W → ∀ a : Nat, a ≤ xs.length → _ := fun W hW a ha => getc_land W _ xs (a : Int) (HG.out.later hW) (HN.out.later hW) (HS.out.later hW) HBY.out hx (by omega) (by omega)
  go_enter Tryz.func70, Tryz.ntmps70
  go_wp2_with fail
  rw [HW1.out]
  go_loopw [6] (fun iv wr => ∃ (a m f : Nat) (hd : Hd) (ao : Option Addr) (L cap : Nat), a ≤ xs.length ∧ m ≤ T.length ∧ iv = .int .i64 (a : Int) ∧ Hid (xs.length - a ≤ f ∧ fin12 xs T f a (T.take m) hd = R) ∧ Hid (wr.heap[w.heap.size]? = some (.cells #[.int .i64 (m : Int), .slice ao L cap] 149 (0, 0))) ∧ Hid (Own wr W1.heap.size wr.heap.size 9 (.slice ao L cap) (ss (Ed.edge (T.take m)))) ∧ Hid (Below w.heap.size w wr) ∧ W1.heap.size ≤ wr.heap.size) (fun iv _ => xs.length - (intOf iv).toNat)
  case atStart => exact ⟨0, 0, xs.length, headOf [], none, 0, 0, Nat.zero_le _, Nat.zero_le _, rfl, HF0, r_made1, by show Own _ _ _ _ _ _; rw [List.take_zero, Ed.edge_nil]; exact ownNil _ _ _ _, B1, Nat.le_refl _⟩
  case round =>
   obtain ⟨a, m, f, hd, ao_v, L_v, cap_v, ha, hm, rfl, HF, r_made2, o_v2, B2, z2⟩ := hrel
   obtain ⟨W2, hW2⟩ : ∃ X, X = wr := ⟨_, rfl⟩
   subst hW2
   clear HF0 r_made1
   have c_made2 := Ke.c r_made2
   by_cases hlt : a < xs.length
   ·
    have hlt2 : (a : Int) < (xs.length : Int) := by omega
    have q2 := qg W2 B2.out a ha
    obtain ⟨h, x, p, ok, hg⟩ : ∃ h x p ok, getC xs (a : Int) = (h, x, p, ok) := ⟨_, _, _, _, rfl⟩
    unfold GotC at q2
    rw [hg] at q2
    simp only at q2
    have hx2 : x.length ≤ 200 := by
     have h9 := getC_len xs (a : Int)
     rw [hg] at h9
     exact h9
    have HGC : Hid (getC xs (a : Int) = (h, x, p, ok)) := hg
    have HXZ : Hid (∀ s ∈ x, s.size ≤ 1000000000) := getC_size HBY.out hg
    clear hg
    go_wp2_with fail
    refine (q2).mono ?_
    rintro e W3 ⟨v_t, rfl, o_t3, b3⟩
    obtain ⟨ao_t, L_t, cap_t, rfl, hL_t, hM_t⟩ := o_t3.form
    have o_t3 : Hid (Own W3 W2.heap.size W3.heap.size 9 (.slice ao_t L_t cap_t) (ss x)) := o_t3
    clear hL_t hM_t
    have z3 := b3.size
    have B3 := Ke.b B2 b3
    have r_made3 := Ke.r r_made2 b3
    have o_v3 := Ke.o o_v2 b3
    have c_made3 := Ke.c r_made3
    clear r_made2 c_made2 o_v2
    have hLt : L_t ≤ x.length ∧ x.length ≤ L_t := by obtain ⟨a9, L9, c9, he, h1, h2⟩ := Mem.Own.form o_t3.out; injection he with _ he2 _; rw [ss_len] at h1 h2; omega
    clear q2
    have a_made3 := Ke.a r_made3
    obtain ⟨W4, HW4, b4, y4, hS4, r_h4⟩ := Ke.l1 W3 #[.int .i64 h.n, .string h.r] 26
    have z4 := b4.size
    have B4 := Ke.b B3 b4
    have r_made4 := Ke.r r_made3 b4
    have o_v4 := Ke.o o_v3 b4
    have o_t4 := Ke.o o_t3 b4
    have c_made4 := Ke.c r_made4
    clear r_made3 c_made3 o_v3 o_t3
    have hmT : (m : Int) ≤ (T.length : Int) := by omega
    by_cases hcm : cap1 = m
    ·
     cases ok
     ·
      have HO : Hid (R = false) := by show _ = _; rw [← HF.out.2]; exact fin_no hlt HF.out.1 (by rw [HGC.out])
      go_wp2
      go_ret
      exact ⟨by rw [HO.out]; rfl, (by rw [HW4.out]; exact B4.out)⟩
     ·
      obtain ⟨q, rfl, hq1, hq2, hx1, _⟩ := getC_some HBY.out HGC.out
      have hgt : T.length - m < x.length := by omega
      have dt : decide ((0 : Int) < (L_t : Int)) = true := decide_eq_true (by omega)
      have HO : Hid (R = false) := by show _ = _; rw [← HF.out.2]; exact fin_far hlt HF.out.1 (by rw [HGC.out]; exact far_len hm hgt)
      go_wp2
      go_ret
      exact ⟨by rw [HO.out]; rfl, (by rw [HW4.out]; exact B4.out)⟩
    ·
     obtain ⟨d, hd0⟩ : ∃ d, T.length - m = d := ⟨_, rfl⟩
     have hdm : d + m = T.length ∧ d ≤ T.length := by omega
     cases ok
     ·
      have HO : Hid (R = false) := by show _ = _; rw [← HF.out.2]; exact fin_no hlt HF.out.1 (by rw [HGC.out])
      go_wp2
      go_ret
      exact ⟨by rw [HO.out]; rfl, (by rw [HW4.out]; exact B4.out)⟩
     ·
      obtain ⟨q, rfl, hq1, hq2, hx1, _⟩ := getC_some HBY.out HGC.out
      by_cases hgt : T.length - m < x.length
      ·
       have dt : decide ((d : Int) < (L_t : Int)) = true := decide_eq_true (by omega)
       have HO : Hid (R = false) := by show _ = _; rw [← HF.out.2]; exact fin_far hlt HF.out.1 (by rw [HGC.out]; exact far_len hm hgt)
       go_wp2
       go_ret
       exact ⟨by rw [HO.out]; rfl, (by rw [HW4.out]; exact B4.out)⟩
      ·
       have dt : decide ((d : Int) < (L_t : Int)) = false := decide_eq_false (by omega)
       have dl : (L_t : Int) ≤ (cap1 : Int) - (m : Int) := by omega
       have dl2 : L_t ≤ cap1 - m := by omega
       have dl3 : (L_t : Int) ≤ ((cap1 - m : Nat) : Int) := by omega
       have hLx : L_t = x.length := by omega
       have HR2 : Hid (∀ W, Below w.heap.size w W → Sl W (.slice (some ⟨bT, offT + m, none⟩) L_t (cap1 - m)) (ss ((T.drop m).take x.length))) := by
        intro W hW
        have s1 := slBack (HT.out.later hW) m (by rw [ss_len]; omega)
        have s2 := Sl.front s1 L_t (by rw [List.length_drop, ss_len]; omega)
        have e : ss ((T.drop m).take x.length) = ((ss T).drop m).take L_t := by unfold ss; rw [List.map_take, List.map_drop, hLx]
        rw [e]
        exact s2
       clear hLx
       obtain ⟨t, hte⟩ : ∃ t : Bool, t = true ↔ x = (T.drop m).take x.length := ⟨decide (x = (T.drop m).take x.length), by simp⟩
       have HTE : Hid (t = true ↔ x = (T.drop m).take x.length) := hte
       clear hte
       go_wp2_with fail
       rw [HW4.out]
       clear a_made3
       refine (Cl.same_impl W4 _ _ x ((T.drop m).take x.length) t HTE.out o_t4.out.sl (HR2.out _ B4.out) (by omega) (by rw [List.length_take]; omega)).mono ?_
       rintro e W5 ⟨rfl, h5, _⟩
       have b5 : Below W4.heap.size W4 W5 := h5 _
       clear h5
       have z5 := b5.size
       have B5 := Ke.b B4 b5
       have r_made5 := Ke.r r_made4 b5
       have r_h5 := Ke.r r_h4 b5
       have o_v5 := Ke.o o_v4 b5
       have o_t5 := Ke.o o_t4 b5
       have c_made5 := Ke.c r_made5
       clear r_made4 c_made4 r_h4 o_v4 o_t4
       cases t
       ·
        have HO : Hid (R = false) := by
         show _ = _
         rw [← HF.out.2]
         refine fin_far hlt HF.out.1 ?_
         rw [HGC.out]
         show ¬ (T.take m ++ x) <+: T
         intro h9
         have h8 := (pre_eq (by rw [List.length_drop]; omega)).2 ((pre_take hm).1 h9)
         exact absurd (HTE.out.2 h8) (by simp)
        go_wp2
        go_ret
        exact ⟨by rw [HO.out]; rfl, B5.out⟩
       ·
        have hpre : x <+: T.drop m := (pre_eq (by rw [List.length_drop]; omega)).1 (HTE.out.1 rfl)
        obtain ⟨e5, e6⟩ := take_more hm hpre
        have e7 := allE_take h2 hm hpre
        have e8 := headOf_edge h2 e6
        obtain ⟨m2, hm2⟩ : ∃ m2, m + x.length = m2 := ⟨_, rfl⟩
        rw [hm2] at e5 e6 e7 e8
        obtain ⟨D, hD⟩ : ∃ D, Ed.rootE (m2 : Int) (Ed.edge (T.take m2)) = D := ⟨_, rfl⟩
        have edl : ∀ k, (Ed.edge (T.take k)).length ≤ 1000000 := fun k => by
         rw [Ed.edge_len]
         have h9 : (T.take k).length < 256 := by rw [List.length_take]; omega
         have := Ed.popc_le ⟨(T.take k).length, h9⟩
         simp only at this
         omega
        have qa : ∀ W v1 v2, Glob W → Sl W v1 (ss (Ed.edge (T.take m))) → Sl W v2 (ss x) → _ := fun W v1 v2 g1 h1 h3 => Ed.all_impl W (m : Int) v1 v2 (Ed.edge (T.take m)) x g1 h1 h3 (by have := edl m; omega) (fun s hs => by have := Ed.edge_sizes _ s hs; omega) (by omega) (fun s hs => by have := HXZ.out s hs; omega)
        simp only [e7] at qa
        have qr : ∀ W v1, Glob W → Sl W v1 (ss (Ed.edge (T.take m2))) → _ := fun W v1 g1 h1 => Ed.rootE_impl W (m2 : Int) v1 (Ed.edge (T.take m2)) g1 h1 (by have := edl m2; omega) (fun s hs => by have := Ed.edge_sizes _ s hs; omega)
        simp only [hD] at qr
        rw [hD] at e8
        have HH : Hid (headOf (T.take m ++ x) = ⟨(m2 : Int), D⟩) := by show _ = _; rw [e5]; exact e8
        have HE5 : Hid (T.take m ++ x = T.take m2) := e5
        have hm2T : m2 ≤ T.length := e6
        obtain ⟨E, hE⟩ : ∃ E, eqH h ⟨(m2 : Int), D⟩ = E := ⟨_, rfl⟩
        have e1 : ∀ W, (binOp .neq 26 (.agg #[.int .i64 h.n, .string h.r]) (.agg #[.int .i64 (m2 : Int), .string D])).run Tryz.prog W = .ok (.bool (!E)) W := fun W => by have h9 := neqH W h ⟨(m2 : Int), D⟩; rw [hE] at h9; exact h9
        have e2 : ∀ W op y z xs ys, _ := fun W op y z xs ys => grdH W op y z xs ys
        have HE : Hid (eqH h ⟨(m2 : Int), D⟩ = E) := hE
        clear hE hD e5 e6 e7 e8 edl hpre hm2 HTE HR2
        go_wp2_with fail
        refine (qa W5 _ _ (HG.out.later B5.out) o_v5.out.sl o_t5.out.sl).mono ?_
        rintro e W6 ⟨v_e, rfl, o_e6, b6⟩
        obtain ⟨ao_e, L_e, cap_e, rfl, hL_e, hM_e⟩ := o_e6.form
        have o_e6 : Hid (Own W6 W5.heap.size W6.heap.size 9 (.slice ao_e L_e cap_e) (ss (Ed.edge (T.take m2)))) := o_e6
        clear hL_e hM_e
        have z6 := b6.size
        have B6 := Ke.b B5 b6
        have r_made6 := Ke.r r_made5 b6
        have r_h6 := Ke.r r_h5 b6
        clear r_made5 c_made5 r_h5 o_v5 o_t5
        go_wp2_with (refine wpl_partG rfl 149 _ _ rfl (w.heap.size) 0 (Ed.ee (m2 : Int) (.slice ao_e L_e cap_e)) rfl rfl [.int .i64 (m : Int), .slice ao_v L_v cap_v] 149 r_made6.out (Nat.le_of_ble_eq_true rfl) (Ed.sizeEd _ _) (Ed.oneEd _ rfl) [.int .i64 (m2 : Int), .slice ao_e L_e cap_e] rfl ?_)
        intro W7 r_made7 g7
        have r_made7 := Ke.h r_made7
        have z7 := g7.size
        have B7 : Hid (Below w.heap.size w W7) := belowGro B6.out g7 B6.out.size (fun k9 h9 => by injection h9 with h9; have := B6.out.size; omega)
        have r_h7 := Ke.s r_h6 g7
        have o_e7 := Ke.t o_e6 r_made6 g7
        have c_made7 := Ke.c r_made7
        have c_h7 := Ke.c r_h7
        clear r_h6 o_e6
        clear r_made6
        clear g7
        go_wp2_with fail
        refine wp_region_held_drew (S := fun w' => w'.cell? ⟨W3.heap.size, 0, none⟩ = some (.int .i64 h.n) ∧ w'.cell? ⟨W3.heap.size, 1, none⟩ = some (.string h.r) ∧ w'.cell? ⟨w.heap.size, 0, none⟩ = some (.int .i64 (m2 : Int)) ∧ w'.cell? ⟨w.heap.size, 1, none⟩ = some (.slice ao_e L_e cap_e)) (by kernel_rfl) ⟨(c_h7 0), (c_h7 1), (c_made7 0), (c_made7 1)⟩ (fun hHeld => ?_)
        refine Ke.y 0 rfl (fun _ _ _ h => h) ?_
        try simp only [Act.put, pu1, pu2, pu3, pu4, pu5, pu6]
        refine Ke.y 1 rfl (fun _ _ _ h => h) ?_
        try simp only [Act.put, pu1, pu2, pu3, pu4, pu5, pu6]
        refine Ke.y 2 rfl (fun _ _ _ h => h) ?_
        try simp only [Act.put, pu1, pu2, pu3, pu4, pu5, pu6]
        refine Ke.y 3 rfl (fun _ _ _ h => h) ?_
        try simp only [Act.put, pu1, pu2, pu3, pu4, pu5, pu6]
        refine Ke.z 4 rfl (fun K hK => ?_)
        go_simp
        refine (qr W7.drew _ (HG.out.later (Below.drew B7.out)) (Own.sl (w := W7) o_e7.out)).mono ?_
        rintro e W8 ⟨rfl, b8⟩
        have b8 : Below W7.heap.size W7 W8 := (Below.drew (Below.refl _ _)).trans b8
        refine hK.out _ _ ⟨(keepR (W := W7) hHeld.1 b8), (keepR (W := W7) hHeld.2.1 b8), (keepR (W := W7) hHeld.2.2.1 b8), (keepR (W := W7) hHeld.2.2.2 b8)⟩ (fun hHeld => ?_)
        clear hK K
        try simp only [Act.put, pu1, pu2, pu3, pu4, pu5, pu6]
        have z8 := b8.size
        have B8 := Ke.b B7 b8
        have r_made8 := Ke.r r_made7 b8
        have o_e8 := Ke.o o_e7 b8
        clear r_made7 c_made7 r_h7 c_h7 o_e7
        refine Ke.y 5 rfl (fun _ _ _ h => h) ?_
        try simp only [Act.put, pu1, pu2, pu3, pu4, pu5, pu6]
        refine Ke.y 6 rfl (fun _ _ _ h => h) ?_
        try simp only [Act.put, pu1, pu2, pu3, pu4, pu5, pu6]
        refine wpAnyH_done (by kernel_rfl) ?_ _
        clear hHeld
        cases E
        ·
         have HO : Hid (R = false) := by show _ = _; rw [← HF.out.2]; exact fin_head hlt HF.out.1 (by rw [HGC.out, HH.out]; exact HE.out)
         go_wp2
         go_ret
         exact ⟨by rw [HO.out]; rfl, B8.out⟩
        ·
         obtain ⟨f', hf1, hf2⟩ := fin_go (T := T) (l := T.take m) (hd := hd) hlt HF.out.1 HGC.out hq1 (by rw [HE5.out, List.length_take]; omega) (by rw [HH.out]; exact HE.out)
         have HF9 : Hid (xs.length - q ≤ f' ∧ fin12 xs T f' q (T.take m2) h = R) := ⟨hf1, by rw [← HE5.out, ← hf2]; exact HF.out.2⟩
         clear hf1 hf2
         go_wp2
         go_roundw
         case rel => exact ⟨q, m2, f', h, ao_e, L_e, cap_e, hq2, hm2T, rfl, HF9, r_made8, Own.mono o_e8.out (by omega) (by omega), B8, by omega⟩
         case measure => simp [intOf]; omega
   ·
    have hlt2 : ¬ (a : Int) < (xs.length : Int) := by omega
    have HO : Hid (R = ((m : Int) == (T.length : Int))) := by
     show _ = _
     rw [← HF.out.2, fin_end hlt]
     by_cases h9 : m = T.length
     ·
      have h8 : T.take m = T := List.take_of_length_le (by omega)
      have h7 : (m : Int) = (T.length : Int) := by omega
      simp [h8, h7]
     ·
      have h8 : ¬ T.take m = T := fun e9 => by have := congrArg List.length e9; rw [List.length_take] at this; omega
      have h7 : ¬ (m : Int) = (T.length : Int) := by omega
      simp [h8, h7]
    go_wp2
    go_ret
    exact ⟨by rw [HO.out]; rfl, B2.out⟩
 ·
  have qg : ∀ W, Below w.heap.size w W → ∀ a : Nat, a ≤ xs.length → _ := fun W hW a ha => getc_land W _ xs (a : Int) (HG.out.later hW) (HN.out.later hW) (HS.out.later hW) HBY.out hx (by omega) (by omega)
  go_enter Tryz.func70, Tryz.ntmps70
  go_wp2_with fail
  rw [HW1.out]
  go_loopw [6] (fun iv wr => ∃ (a m f : Nat) (hd : Hd) (ao : Option Addr) (L cap : Nat), a ≤ xs.length ∧ m ≤ T.length ∧ iv = .int .i64 (a : Int) ∧ Hid (xs.length - a ≤ f ∧ fin12 xs T f a (T.take m) hd = R) ∧ Hid (wr.heap[w.heap.size]? = some (.cells #[.int .i64 (m : Int), .slice ao L cap] 149 (0, 0))) ∧ Hid (Own wr W1.heap.size wr.heap.size 9 (.slice ao L cap) (ss (Ed.edge (T.take m)))) ∧ Hid (Below w.heap.size w wr) ∧ W1.heap.size ≤ wr.heap.size) (fun iv _ => xs.length - (intOf iv).toNat)
  case atStart => exact ⟨0, 0, xs.length, headOf [], none, 0, 0, Nat.zero_le _, Nat.zero_le _, rfl, HF0, r_made1, by show Own _ _ _ _ _ _; rw [List.take_zero, Ed.edge_nil]; exact ownNil _ _ _ _, B1, Nat.le_refl _⟩
  case round =>
   obtain ⟨a, m, f, hd, ao_v, L_v, cap_v, ha, hm, rfl, HF, r_made2, o_v2, B2, z2⟩ := hrel
   obtain ⟨W2, hW2⟩ : ∃ X, X = wr := ⟨_, rfl⟩
   subst hW2
   clear HF0 r_made1
   have c_made2 := Ke.c r_made2
   by_cases hlt : a < xs.length
   ·
    have hlt2 : (a : Int) < (xs.length : Int) := by omega
    have q2 := qg W2 B2.out a ha
    obtain ⟨h, x, p, ok, hg⟩ : ∃ h x p ok, getC xs (a : Int) = (h, x, p, ok) := ⟨_, _, _, _, rfl⟩
    unfold GotC at q2
    rw [hg] at q2
    simp only at q2
    have hx2 : x.length ≤ 200 := by
     have h9 := getC_len xs (a : Int)
     rw [hg] at h9
     exact h9
    have HGC : Hid (getC xs (a : Int) = (h, x, p, ok)) := hg
    have HXZ : Hid (∀ s ∈ x, s.size ≤ 1000000000) := getC_size HBY.out hg
    clear hg
    go_wp2_with fail
    refine (q2).mono ?_
    rintro e W3 ⟨v_t, rfl, o_t3, b3⟩
    obtain ⟨ao_t, L_t, cap_t, rfl, hL_t, hM_t⟩ := o_t3.form
    have o_t3 : Hid (Own W3 W2.heap.size W3.heap.size 9 (.slice ao_t L_t cap_t) (ss x)) := o_t3
    clear hL_t hM_t
    have z3 := b3.size
    have B3 := Ke.b B2 b3
    have r_made3 := Ke.r r_made2 b3
    have o_v3 := Ke.o o_v2 b3
    have c_made3 := Ke.c r_made3
    clear r_made2 c_made2 o_v2
    have hLt : L_t ≤ x.length ∧ x.length ≤ L_t := by obtain ⟨a9, L9, c9, he, h1, h2⟩ := Mem.Own.form o_t3.out; injection he with _ he2 _; rw [ss_len] at h1 h2; omega
    clear q2
    have a_made3 := Ke.a r_made3
    obtain ⟨W4, HW4, b4, y4, hS4, r_h4⟩ := Ke.l1 W3 #[.int .i64 h.n, .string h.r] 26
    have z4 := b4.size
    have B4 := Ke.b B3 b4
    have r_made4 := Ke.r r_made3 b4
    have o_v4 := Ke.o o_v3 b4
    have o_t4 := Ke.o o_t3 b4
    have c_made4 := Ke.c r_made4
    clear r_made3 c_made3 o_v3 o_t3
    have hmT : (m : Int) ≤ (T.length : Int) := by omega
    obtain rfl : m = 0 := by omega
    rcases ao1 with _ | ad
    ·
     obtain rfl := hn1 rfl
     cases ok
     ·
      have HO : Hid (R = false) := by show _ = _; rw [← HF.out.2]; exact fin_no hlt HF.out.1 (by rw [HGC.out])
      go_wp2
      go_ret
      exact ⟨by rw [HO.out]; rfl, (by rw [HW4.out]; exact B4.out)⟩
     ·
      obtain ⟨q, rfl, hq1, hq2, hx1, _⟩ := getC_some HBY.out HGC.out
      have hgt : T.length - 0 < x.length := by omega
      have dt : decide ((0 : Int) < (L_t : Int)) = true := decide_eq_true (by omega)
      have HO : Hid (R = false) := by show _ = _; rw [← HF.out.2]; exact fin_far hlt HF.out.1 (by rw [HGC.out]; exact far_len hm hgt)
      go_wp2
      go_ret
      exact ⟨by rw [HO.out]; rfl, (by rw [HW4.out]; exact B4.out)⟩
    ·
     by_cases hcm : cap1 = 0
     ·
      subst hcm
      cases ok
      ·
       have HO : Hid (R = false) := by show _ = _; rw [← HF.out.2]; exact fin_no hlt HF.out.1 (by rw [HGC.out])
       go_wp2
       go_ret
       exact ⟨by rw [HO.out]; rfl, (by rw [HW4.out]; exact B4.out)⟩
      ·
       obtain ⟨q, rfl, hq1, hq2, hx1, _⟩ := getC_some HBY.out HGC.out
       have hgt : T.length - 0 < x.length := by omega
       have dt : decide ((0 : Int) < (L_t : Int)) = true := decide_eq_true (by omega)
       have HO : Hid (R = false) := by show _ = _; rw [← HF.out.2]; exact fin_far hlt HF.out.1 (by rw [HGC.out]; exact far_len hm hgt)
       go_wp2
       go_ret
       exact ⟨by rw [HO.out]; rfl, (by rw [HW4.out]; exact B4.out)⟩
     ·
      cases ok
      ·
       have HO : Hid (R = false) := by show _ = _; rw [← HF.out.2]; exact fin_no hlt HF.out.1 (by rw [HGC.out])
       go_wp2
       go_ret
       exact ⟨by rw [HO.out]; rfl, (by rw [HW4.out]; exact B4.out)⟩
      ·
       obtain ⟨q, rfl, hq1, hq2, hx1, _⟩ := getC_some HBY.out HGC.out
       have hgt : T.length - 0 < x.length := by omega
       have dt : decide ((0 : Int) < (L_t : Int)) = true := decide_eq_true (by omega)
       have HO : Hid (R = false) := by show _ = _; rw [← HF.out.2]; exact fin_far hlt HF.out.1 (by rw [HGC.out]; exact far_len hm hgt)
       go_wp2
       go_ret
       exact ⟨by rw [HO.out]; rfl, (by rw [HW4.out]; exact B4.out)⟩
   ·
    have hlt2 : ¬ (a : Int) < (xs.length : Int) := by omega
    have HO : Hid (R = ((m : Int) == (T.length : Int))) := by
     show _ = _
     rw [← HF.out.2, fin_end hlt]
     by_cases h9 : m = T.length
     ·
      have h8 : T.take m = T := List.take_of_length_le (by omega)
      have h7 : (m : Int) = (T.length : Int) := by omega
      simp [h8, h7]
     ·
      have h8 : ¬ T.take m = T := fun e9 => by have := congrArg List.length e9; rw [List.length_take] at this; omega
      have h7 : ¬ (m : Int) = (T.length : Int) := by omega
      simp [h8, h7]
    go_wp2
    go_ret
    exact ⟨by rw [HO.out]; rfl, B2.out⟩
end Go.Proofs.YtchonoonclllbaaGreatDoor.Sr
namespace Go.Proofs.YtchonoonclllbaaGreatDoor.He
open Go.RowKit Go.Proofs.YtchonoonclllbaaGreatDoor.Mem Go.Proofs.YtchonoonclllbaaGreatDoor.Laws Go.Proofs.YtchonoonclllbaaGreatDoor.Bytes Go.Proofs.YtchonoonclllbaaGreatDoor.Sha Go.Proofs.YtchonoonclllbaaGreatDoor.Tr
set_option linter.unusedVariables false
set_option linter.unusedSimpArgs false
set_option maxRecDepth 1000000 in
set_option maxHeartbeats 1000000 in
theorem headOf_impl (w : World) (v : Value) (l : List ByteArray) (hG : Glob w) (h : Sl w v (ss l)) (hl : l.length ≤ 1000000000000) (hz : ∀ s ∈ l, s.size ≤ 10000000000) :
  Calls Tryz.prog 20 #[v] w fun e w' => e = .returned (.agg #[.int .i64 (headOf l).n, .string (headOf l).r]) ∧ Below w.heap.size w w' := by
 have HR : Hid ((w.alloc (.cells #[.int .i64 0, .string ⟨#[]⟩] 26)).heap[w.heap.size]? = some (.cells (hc hd0) 26 (0, 0))) := heap_alloc_new w _
 have HB : Hid (Below w.heap.size w (w.alloc (.cells #[.int .i64 0, .string ⟨#[]⟩] 26))) := (Below.refl _ _).alloc (Nat.le_refl _) _
 by_cases h2 : l.length ≤ 200
 ·
  have q := root_impl (w.alloc (.cells #[.int .i64 0, .string ⟨#[]⟩] 26)) v l (hG.later HB.out) (h.later HB.out) (by omega) hz
  rw [show rootOf l = root l from if_pos h2] at q
  obtain ⟨M, hM⟩ : ∃ M, headOf l = M := ⟨_, rfl⟩
  have hM2 : M = ⟨l.length, root l⟩ := by rw [← hM]; unfold headOf; rw [if_pos h2]
  obtain ⟨ao, cap, rfl, hcap, _⟩ := h
  have d2 : ¬ (200 : Int) < (l.length : Int) := by omega
  obtain ⟨x, hx⟩ : ∃ x, root l = x := ⟨_, rfl⟩
  rw [hx] at q hM2
  rw [hM, hM2]
  rw [ss_len] at *
  clear hx hM hM2 hz
  go_enter Tryz.func20, Tryz.ntmps20
  go_wp2_with fail
  refine q.mono ?_
  rintro e w1 ⟨rfl, b1⟩
  have R1 := rowKeep HR.out b1
  have B1 : Below w.heap.size w w1 := HB.out.trans (b1.mono HB.out.size)
  clear q HR b1
  go_wp2_with (refine wpList_store_row rfl 26 _ _ rfl w.heap.size (hc (⟨(l.length : Int), x⟩ : Hd)) rfl rfl 26 _ R1 (sizeH (⟨(l.length : Int), x⟩ : Hd)) rfl (oneH (⟨(l.length : Int), x⟩ : Hd)) ?_)
  exact bodyPost_ret (v := .agg (hc ⟨(l.length : Int), x⟩)) (results_cell_row rfl _ _ w.heap.size 26 _ (0, 0) _ rfl (setRow_heap _ _ _ _ _ (0, 0) R1) Tryz.underlying26 rfl (sizeH _)) rfl ⟨rfl, below_setRow B1 (Nat.le_refl _) _⟩
 ·
  have d2 : (200 : Int) < (l.length : Int) := by omega
  have hM : headOf l = hd0 := by unfold headOf; rw [if_neg h2]
  rw [hM]
  obtain ⟨ao, cap, rfl, hcap, _⟩ := h
  rw [ss_len]
  clear hz hM
  go_enter Tryz.func20, Tryz.ntmps20
  go_wp2_with (refine wpList_store_row rfl 26 _ _ rfl w.heap.size (hc hd0) rfl rfl 26 _ HR.out (sizeH hd0) rfl (oneH hd0) ?_)
  exact bodyPost_ret (v := .agg (hc hd0)) (results_cell_row rfl _ _ w.heap.size 26 _ (0, 0) _ rfl (setRow_heap _ _ _ _ _ (0, 0) HR.out) Tryz.underlying26 rfl (sizeH hd0)) rfl ⟨rfl, below_setRow HB.out (Nat.le_refl _) _⟩
end Go.Proofs.YtchonoonclllbaaGreatDoor.He
namespace Go.Proofs.YtchonoonclllbaaGreatDoor.Lg
open Go.RowKit Go.Proofs.YtchonoonclllbaaGreatDoor.Mem Go.Proofs.YtchonoonclllbaaGreatDoor.Laws Go.Proofs.YtchonoonclllbaaGreatDoor.Bytes Go.Proofs.YtchonoonclllbaaGreatDoor.Sha Go.Proofs.YtchonoonclllbaaGreatDoor.Tr Go.Proofs.YtchonoonclllbaaGreatDoor.He
set_option linter.unusedVariables false
set_option linter.unusedSimpArgs false
theorem Own.none9 (w : World) (lo hi : Nat) : Own w lo hi 9 (.slice none 0 0) (ss []) := ⟨⟨rfl, Or.inl ⟨rfl, rfl⟩⟩, fun g hg => by simp [Value.ownBlock] at hg⟩
set_option maxRecDepth 1000000 in
set_option maxHeartbeats 2000000 in
theorem logok_impl (w : World) (v : Value) (l : List ByteArray) (h : Hd) (hG : Glob w) (hs : Sl w v (ss l)) (hl : l.length ≤ 1000000000000) (hz : ∀ s ∈ l, s.size ≤ 10000000000) :
  Calls Tryz.prog 69 #[.agg #[v, .int .i64 h.n, .string h.r]] w fun e w' => e = .returned (.bool (logOk l h)) ∧ Below w.heap.size w w' := by
 have hs0 := hs
 obtain ⟨ao, cap, rfl, hcap⟩ := hs.form
 rw [ss_len] at *
 obtain ⟨W, hW, r0, HB⟩ : ∃ W, Hid (w.alloc (.cells #[.slice ao l.length cap, .int .i64 h.n, .string h.r] 28) = W) ∧ W.heap[w.heap.size]? = some (.cells (lc (.slice ao l.length cap) h) 28 (0, 0)) ∧ Hid (Below w.heap.size w W) := ⟨_, rfl, heap_alloc_new w _, (Below.refl _ _).alloc (Nat.le_refl _) _⟩
 have c0 : W.cell? ⟨w.heap.size, 0, none⟩ = some (.slice ao l.length cap) := row_at r0 0
 have c1 : W.cell? ⟨w.heap.size, 1, none⟩ = some (.int .i64 h.n) := row_at r0 1
 have c2 : W.cell? ⟨w.heap.size, 2, none⟩ = some (.string h.r) := row_at r0 2
 have q := headOf_impl W.drew _ l (hG.later (Below.drew HB.out)) (hs0.later (Below.drew HB.out)) hl hz
 have e1 : ∀ W', _ := fun W' => eqlH W' h (headOf l)
 have e2 : ∀ W' op x y xs ys, _ := fun W' op x y xs ys => grdH W' op x y xs ys
 have HN : Hid (logOk l h = (decide (l.length ≤ 200) && eqH h (headOf l))) := rfl
 obtain ⟨M, hM⟩ : ∃ M, headOf l = M := ⟨_, rfl⟩
 rw [hM] at q HN
 simp only [hM] at e1
 obtain ⟨B, hB⟩ : ∃ B, eqH h M = B := ⟨_, rfl⟩
 rw [hB] at HN
 simp only [hB] at e1
 obtain ⟨A, hA⟩ : ∃ A, logOk l h = A := ⟨_, rfl⟩
 rw [hA] at HN ⊢
 clear hM hB hA hs hs0 r0 hz hG
 by_cases h2 : l.length ≤ 200
 ·
  have d1 : decide ((l.length : Int) ≤ 200) = true := by simp; omega
  have HN2 : Hid (A = B) := by show _ = _; rw [HN.out]; simp [h2]
  clear HN
  go_enter Tryz.func69, Tryz.ntmps69
  go_wp2_with fail
  rw [hW.out]
  refine wp_region_held_drew (S := fun w' => w'.cell? ⟨w.heap.size, 0, none⟩ = some (.slice ao l.length cap) ∧ w'.cell? ⟨w.heap.size, 1, none⟩ = some (.int .i64 h.n) ∧ w'.cell? ⟨w.heap.size, 2, none⟩ = some (.string h.r)) (by kernel_rfl) ⟨c0, c1, c2⟩ (fun hHeld => ?_)
  refine Ke.y 0 rfl (fun _ _ _ h => h) ?_
  try simp only [Act.put, pu1, pu2, pu3, pu4, pu5, pu6]
  refine Ke.y 1 rfl (fun _ _ _ h => h) ?_
  try simp only [Act.put, pu1, pu2, pu3, pu4, pu5, pu6]
  refine Ke.y 2 rfl (fun _ _ _ h => h) ?_
  try simp only [Act.put, pu1, pu2, pu3, pu4, pu5, pu6]
  refine Ke.y 3 rfl (fun _ _ _ h => h) ?_
  try simp only [Act.put, pu1, pu2, pu3, pu4, pu5, pu6]
  refine Ke.y 4 rfl (fun _ _ _ h => h) ?_
  try simp only [Act.put, pu1, pu2, pu3, pu4, pu5, pu6]
  refine Ke.y 5 rfl (fun _ _ _ h => h) ?_
  try simp only [Act.put, pu1, pu2, pu3, pu4, pu5, pu6]
  refine Ke.y 6 rfl (fun _ _ _ h => h) ?_
  try simp only [Act.put, pu1, pu2, pu3, pu4, pu5, pu6]
  refine Ke.y 7 rfl (fun _ _ _ h => h) ?_
  try simp only [Act.put, pu1, pu2, pu3, pu4, pu5, pu6]
  refine Ke.y 8 rfl (fun _ _ _ h => h) ?_
  try simp only [Act.put, pu1, pu2, pu3, pu4, pu5, pu6]
  refine Ke.z 9 rfl (fun K hK => ?_)
  go_simp
  refine (q).mono ?_
  rintro e w1 ⟨rfl, b1⟩
  refine hK.out _ _ ?_ (fun hHeld => ?_)
  ·
   exact ⟨keepR (W := W.drew) hHeld.1 b1, keepR (W := W.drew) hHeld.2.1 b1, keepR (W := W.drew) hHeld.2.2 b1⟩
  clear hK K
  try simp only [Act.put, pu1, pu2, pu3, pu4, pu5, pu6]
  refine Ke.y 10 rfl (fun _ _ _ h => h) ?_
  try simp only [Act.put, pu1, pu2, pu3, pu4, pu5, pu6]
  refine Ke.y 11 rfl (fun _ _ _ h => h) ?_
  try simp only [Act.put, pu1, pu2, pu3, pu4, pu5, pu6]
  refine Ke.y 12 rfl (fun _ _ _ h => h) ?_
  try simp only [Act.put, pu1, pu2, pu3, pu4, pu5, pu6]
  refine wpAnyH_done (by kernel_rfl) ?_ _
  clear hHeld
  go_wp2
  go_ret
  exact ⟨by rw [HN2.out]; rfl, (Below.drew HB.out).trans (b1.mono HB.out.size)⟩
 ·
  have d1 : decide ((l.length : Int) ≤ 200) = false := by simp; omega
  have HN2 : Hid (A = false) := by show _ = _; rw [HN.out]; simp [h2]
  clear HN q
  go_enter Tryz.func69, Tryz.ntmps69
  go_wp2_with fail
  rw [hW.out]
  refine wp_region_held_drew (S := fun w' => w'.cell? ⟨w.heap.size, 0, none⟩ = some (.slice ao l.length cap) ∧ w'.cell? ⟨w.heap.size, 1, none⟩ = some (.int .i64 h.n) ∧ w'.cell? ⟨w.heap.size, 2, none⟩ = some (.string h.r)) (by kernel_rfl) ⟨c0, c1, c2⟩ (fun hHeld => ?_)
  refine Ke.y 0 rfl (fun _ _ _ h => h) ?_
  try simp only [Act.put, pu1, pu2, pu3, pu4, pu5, pu6]
  refine Ke.y 1 rfl (fun _ _ _ h => h) ?_
  try simp only [Act.put, pu1, pu2, pu3, pu4, pu5, pu6]
  refine Ke.y 2 rfl (fun _ _ _ h => h) ?_
  try simp only [Act.put, pu1, pu2, pu3, pu4, pu5, pu6]
  refine Ke.y 3 rfl (fun _ _ _ h => h) ?_
  try simp only [Act.put, pu1, pu2, pu3, pu4, pu5, pu6]
  refine Ke.y 4 rfl (fun _ _ _ h => h) ?_
  try simp only [Act.put, pu1, pu2, pu3, pu4, pu5, pu6]
  refine Ke.x 5 rfl (fun _ _ _ h => h) ?_
  try simp only [Act.put, pu1, pu2, pu3, pu4, pu5, pu6]
  refine Ke.x 6 rfl (fun _ _ _ h => h) ?_
  try simp only [Act.put, pu1, pu2, pu3, pu4, pu5, pu6]
  refine Ke.x 7 rfl (fun _ _ _ h => h) ?_
  try simp only [Act.put, pu1, pu2, pu3, pu4, pu5, pu6]
  refine Ke.x 8 rfl (fun _ _ _ h => h) ?_
  try simp only [Act.put, pu1, pu2, pu3, pu4, pu5, pu6]
  refine Ke.x 9 rfl (fun _ _ _ h => h) ?_
  try simp only [Act.put, pu1, pu2, pu3, pu4, pu5, pu6]
  refine Ke.x 10 rfl (fun _ _ _ h => h) ?_
  try simp only [Act.put, pu1, pu2, pu3, pu4, pu5, pu6]
  refine Ke.y 11 rfl (fun _ _ _ h => h) ?_
  try simp only [Act.put, pu1, pu2, pu3, pu4, pu5, pu6]
  refine Ke.y 12 rfl (fun _ _ _ h => h) ?_
  try simp only [Act.put, pu1, pu2, pu3, pu4, pu5, pu6]
  refine wpAnyH_done (by kernel_rfl) ?_ _
  clear hHeld
  go_wp2
  go_ret
  exact ⟨by rw [HN2.out]; rfl, Below.drew HB.out⟩
set_option maxRecDepth 1000000 in
set_option maxHeartbeats 2000000 in
theorem logof_impl (w : World) (v : Value) (l : List ByteArray) (hG : Glob w) (hs : Sl w v (ss l)) (hl : l.length ≤ 1000000000000) (hz : ∀ s ∈ l, s.size ≤ 10000000000) :
  Calls Tryz.prog 107 #[v] w fun e w' => e = .returned (.agg #[v, .int .i64 (headOf l).n, .string (headOf l).r]) ∧ Below w.heap.size w w' := by
 have HS : Hid (Sl w v (ss l)) := hs
 have HG : Hid (Glob w) := hG
 obtain ⟨ao, cap, rfl, hcap⟩ := hs.form
 rw [ss_len] at *
 clear hs hG
 have B0 : Hid (Below w.heap.size w w) := Below.refl _ _
 obtain ⟨W1, HW1, b1, y1, hS1, r_res1⟩ := Ke.l1 w #[.slice none 0 0, .int .i64 0, .string ⟨#[]⟩] 28
 have z1 := b1.size
 have B1 := Ke.b B0 b1
 have q : ∀ W v1, Glob W → Sl W v1 (ss l) → _ := fun W v1 h0 h1 => headOf_impl W v1 l h0 h1 hl hz
 obtain ⟨M, hM⟩ : ∃ M, headOf l = M := ⟨_, rfl⟩
 simp only [hM] at q
 rw [hM]
 clear hM hz
 go_enter Tryz.func107, Tryz.ntmps107
 go_wp2_with fail
 rw [HW1.out]
 refine (q W1 _ (HG.out.later B1.out) (HS.out.later B1.out)).mono ?_
 rintro e W2 ⟨rfl, b2⟩
 have z2 := b2.size
 have B2 := Ke.b B1 b2
 have r_res2 := Ke.r r_res1 b2
 clear r_res1
 go_wp2_with (refine wpList_store_row rfl 28 _ _ rfl (w.heap.size) (lc (.slice ao l.length cap) M) rfl rfl 28 _ r_res2.out (sizeL _ _) rfl (oneL _ rfl) ?_)
 refine bodyPost_ret (v := .agg (lc (.slice ao l.length cap) M)) (results_cell_row rfl _ _ (w.heap.size) 28 _ (0, 0) _ rfl (setRow_heap _ _ _ _ _ (0, 0) r_res2.out) Tryz.underlying28 rfl (sizeL _ _)) rfl ⟨rfl, below_setRow B2.out (by omega) _⟩
set_option maxRecDepth 1000000 in
set_option maxHeartbeats 2000000 in
theorem lognew_impl (w : World) (hG : Glob w) :
  Calls Tryz.prog 60 #[] w fun e w' => ∃ v', e = .returned (.agg #[v', .int .i64 (headOf []).n, .string (headOf []).r]) ∧ Own w' w.heap.size w'.heap.size 9 v' (ss []) ∧ Below w.heap.size w w' := by
 have HG : Hid (Glob w) := hG
 clear hG
 have B0 : Hid (Below w.heap.size w w) := Below.refl _ _
 obtain ⟨W1, HW1, b1, y1, hS1, r_res1⟩ := Ke.l1 w #[.slice none 0 0, .int .i64 0, .string ⟨#[]⟩] 28
 have z1 := b1.size
 have B1 := Ke.b B0 b1
 have q : ∀ W, Glob W → _ := fun W h0 => logof_impl W (.slice none 0 0) [] h0 (Sl.nil W) (Nat.zero_le _) (fun s hs => by cases hs)
 obtain ⟨M, hM⟩ : ∃ M, headOf [] = M := ⟨_, rfl⟩
 simp only [hM] at q
 rw [hM]
 clear hM
 go_enter Tryz.func60, Tryz.ntmps60
 go_wp2_with fail
 rw [HW1.out]
 refine (q W1 (HG.out.later B1.out)).mono ?_
 rintro e W2 ⟨rfl, b2⟩
 have z2 := b2.size
 have B2 := Ke.b B1 b2
 have r_res2 := Ke.r r_res1 b2
 clear r_res1
 go_wp2_with (refine wpList_store_row rfl 28 _ _ rfl (w.heap.size) (lc (.slice none 0 0) M) rfl rfl 28 _ r_res2.out (sizeL _ _) rfl (oneL _ rfl) ?_)
 refine bodyPost_ret (v := .agg (lc (.slice none 0 0) M)) (results_cell_row rfl _ _ (w.heap.size) 28 _ (0, 0) _ rfl (setRow_heap _ _ _ _ _ (0, 0) r_res2.out) Tryz.underlying28 rfl (sizeL _ _)) rfl ⟨.slice none 0 0, rfl, Own.none9 _ _ _, below_setRow B2.out (by omega) _⟩
set_option maxRecDepth 1000000 in
set_option maxHeartbeats 4000000 in
theorem ownlog_impl (w : World) (v : Value) (l : List ByteArray) (h : Hd) (hs : Sl w v (ss l)) (hl : l.length ≤ 1000000000) (hz : ∀ s ∈ l, s.size ≤ 1000000000000) (hh : h.r.size ≤ 1000000000000) :
  Calls Tryz.prog 102 #[.agg #[v, .int .i64 h.n, .string h.r]] w fun e w' => ∃ v', e = .returned (.agg #[v', .int .i64 h.n, .string h.r]) ∧ Own w' w.heap.size w'.heap.size 9 v' (ss l) ∧ Below w.heap.size w w' := by
 have HS : Hid (Sl w v (ss l)) := hs
 obtain ⟨ao, cap, rfl, hcap⟩ := hs.form
 rw [ss_len] at *
 clear hs
 have B0 : Hid (Below w.heap.size w w) := Below.refl _ _
 obtain ⟨W1, HW1, b1, y1, hS1, r_a1, r_res1⟩ := Ke.l2 w #[.slice ao l.length cap, .int .i64 h.n, .string h.r] 28 #[.slice none 0 0, .int .i64 0, .string ⟨#[]⟩] 28
 have z1 := b1.size
 have B1 := Ke.b B0 b1
 have c_a1 := Ke.c r_a1
 have q1 : ∀ W v1, Sl W v1 (ss l) → _ := fun W v1 h1 => Ed.texts_impl W v1 l h1 hl hz
 have q2 : ∀ W, _ := fun W => own_impl W h hh
 clear hz
 go_enter Tryz.func102, Tryz.ntmps102
 go_wp2_with fail
 rw [HW1.out]
 refine wp_region_held_drew (S := fun w' => w'.cell? ⟨w.heap.size, 0, none⟩ = some (.slice ao l.length cap) ∧ w'.cell? ⟨w.heap.size, 1, none⟩ = some (.int .i64 h.n) ∧ w'.cell? ⟨w.heap.size, 2, none⟩ = some (.string h.r)) (by kernel_rfl) ⟨(c_a1 0), (c_a1 1), (c_a1 2)⟩ (fun hHeld => ?_)
 refine Ke.y 0 rfl (fun _ _ _ h => h) ?_
 try simp only [Act.put, pu1, pu2, pu3, pu4, pu5, pu6]
 refine Ke.y 1 rfl (fun _ _ _ h => h) ?_
 try simp only [Act.put, pu1, pu2, pu3, pu4, pu5, pu6]
 refine Ke.y 3 rfl (fun _ _ _ h => h) ?_
 try simp only [Act.put, pu1, pu2, pu3, pu4, pu5, pu6]
 refine Ke.y 4 rfl (fun _ _ _ h => h) ?_
 try simp only [Act.put, pu1, pu2, pu3, pu4, pu5, pu6]
 refine Ke.z 2 rfl (fun K hK => ?_)
 go_simp
 refine (q1 W1.drew _ (Sl.later (w := W1) (HS.out.later B1.out) (Below.drew (Below.refl _ _)))).mono ?_
 rintro e W2 ⟨v_s, rfl, o_s2, b2⟩
 have b2 : Below W1.heap.size W1 W2 := (Below.drew (Below.refl _ _)).trans b2
 refine hK.out _ _ ⟨(keepR (W := W1) hHeld.1 b2), (keepR (W := W1) hHeld.2.1 b2), (keepR (W := W1) hHeld.2.2 b2)⟩ (fun hHeld => ?_)
 clear hK K
 try simp only [Act.put, pu1, pu2, pu3, pu4, pu5, pu6]
 have o_s2 : Own W2 W1.heap.size W2.heap.size 9 _ _ := o_s2
 obtain ⟨ao_s, L_s, cap_s, rfl, hL_s, hM_s⟩ := o_s2.form
 have o_s2 : Hid (Own W2 W1.heap.size W2.heap.size 9 (.slice ao_s L_s cap_s) (ss l)) := o_s2
 clear hL_s hM_s
 have z2 := b2.size
 have B2 := Ke.b B1 b2
 have r_res2 := Ke.r r_res1 b2
 clear r_a1 c_a1 r_res1
 refine Ke.z 5 rfl (fun K hK => ?_)
 go_simp
 refine (q2 W2).mono ?_
 rintro e W3 ⟨rfl, b3⟩
 refine hK.out _ _ ⟨(keepR (W := W2) hHeld.1 b3), (keepR (W := W2) hHeld.2.1 b3), (keepR (W := W2) hHeld.2.2 b3)⟩ (fun hHeld => ?_)
 clear hK K
 try simp only [Act.put, pu1, pu2, pu3, pu4, pu5, pu6]
 have z3 := b3.size
 have B3 := Ke.b B2 b3
 have r_res3 := Ke.r r_res2 b3
 have o_s3 := Ke.o o_s2 b3
 clear r_res2 o_s2
 refine Ke.y 6 rfl (fun _ _ _ h => h) ?_
 try simp only [Act.put, pu1, pu2, pu3, pu4, pu5, pu6]
 refine Ke.z 7 rfl (fun K hK => ?_)
 rw [if_pos (by rfl)]
 refine wp_store_row 28 _ _ rfl (w.heap.size + 1) (lc (.slice ao_s L_s cap_s) h) rfl rfl 28 _ r_res3.out (sizeL _ _) rfl (oneL _ rfl) ?_
 refine hK.out _ _ ⟨(cell_row (by show w.heap.size ≠ w.heap.size + 1; omega) hHeld.1), (cell_row (by show w.heap.size ≠ w.heap.size + 1; omega) hHeld.2.1), (cell_row (by show w.heap.size ≠ w.heap.size + 1; omega) hHeld.2.2)⟩ (fun hHeld => ?_)
 clear hK K
 refine wpAnyH_done (by kernel_rfl) ?_ _
 clear hHeld
 go_wp2
 refine bodyPost_ret (v := .agg (lc (.slice ao_s L_s cap_s) h)) (results_cell_row rfl _ _ (w.heap.size + 1) 28 _ (0, 0) _ rfl (setRow_heap _ _ _ _ _ (0, 0) r_res3.out) Tryz.underlying28 rfl (sizeL _ _)) rfl ⟨.slice ao_s L_s cap_s, rfl, (Own.setRow o_s3.out _ (by omega)).mono (by omega) (by rw [size_setRow]; omega), below_setRow B3.out (by omega) _⟩
end Go.Proofs.YtchonoonclllbaaGreatDoor.Lg
namespace Go.Proofs.YtchonoonclllbaaGreatDoor.Sr
open Go.RowKit Go.Proofs.YtchonoonclllbaaGreatDoor.Mem Go.Proofs.YtchonoonclllbaaGreatDoor.Laws Go.Proofs.YtchonoonclllbaaGreatDoor.Bytes Go.Proofs.YtchonoonclllbaaGreatDoor.Sha Go.Proofs.YtchonoonclllbaaGreatDoor.Tr Go.Proofs.YtchonoonclllbaaGreatDoor.He Go.Proofs.YtchonoonclllbaaGreatDoor.Lg
set_option linter.unusedVariables false
set_option linter.unusedSimpArgs false
theorem none5G (w : World) (lo hi : Nat) : Own w lo hi 5 (.slice none 0 0) (bs []) := ⟨⟨rfl, Or.inl ⟨rfl, rfl⟩⟩, fun g hg => by simp [Value.ownBlock] at hg⟩
set_option maxRecDepth 1000000 in
set_option maxHeartbeats 4000000 in
theorem storenew_impl (w : World) (hG : Glob w) : Calls Tryz.prog 19 #[] w fun e w' => ∃ v' vb', e = .returned (.agg #[v', .int .i64 (headOf []).n, .string (headOf []).r, vb', .int .i64 0]) ∧ Own w' w.heap.size w'.heap.size 9 v' (ss []) ∧ Own w' w.heap.size w'.heap.size 5 vb' (bs []) ∧ Below w.heap.size w w' := by
 have HG : Hid (Glob w) := hG
 clear hG
 have B0 : Hid (Below w.heap.size w w) := Below.refl _ _
 obtain ⟨W1, HW1, b1, y1, hS1, r_res1⟩ := Ke.l1 w #[.slice none 0 0, .int .i64 0, .string ⟨#[]⟩, .slice none 0 0, .int .i64 0] 30
 have z1 := b1.size
 have B1 := Ke.b B0 b1
 obtain ⟨M, hM⟩ : ∃ M, headOf [] = M := ⟨_, rfl⟩
 have q : ∀ W, Glob W → _ := fun W h0 => lognew_impl W h0
 simp only [hM] at q
 rw [hM]
 clear hM
 go_enter Tryz.func19, Tryz.ntmps19
 go_wp2_with fail
 rw [HW1.out]
 refine (q W1 (HG.out.later B1.out)).mono ?_
 rintro e W2 ⟨v_s, rfl, o_s2, b2⟩
 obtain ⟨ao_s, L_s, cap_s, rfl, hL_s, hM_s⟩ := o_s2.form
 have o_s2 : Hid (Own W2 W1.heap.size W2.heap.size 9 (.slice ao_s L_s cap_s) (ss [])) := o_s2
 clear hL_s hM_s
 have z2 := b2.size
 have B2 := Ke.b B1 b2
 have r_res2 := Ke.r r_res1 b2
 clear r_res1
 go_wp2_with (refine wpList_store_row rfl 30 _ _ rfl (w.heap.size) (sc (.slice ao_s L_s cap_s) M (.slice none 0 0) 0) rfl rfl 30 _ r_res2.out (sizeS _ _ _ _) rfl (oneS _ _ rfl rfl) ?_)
 refine bodyPost_ret (v := .agg (sc (.slice ao_s L_s cap_s) M (.slice none 0 0) 0)) (results_cell_row rfl _ _ (w.heap.size) 30 _ (0, 0) _ rfl (setRow_heap _ _ _ _ _ (0, 0) r_res2.out) Tryz.underlying30 rfl (sizeS _ _ _ _)) rfl ⟨_, _, rfl, (Own.setRow o_s2.out _ (by omega)).mono (by omega) (by rw [size_setRow]; omega), none5G _ _ _, below_setRow B2.out (by omega) _⟩
set_option maxRecDepth 1000000 in
set_option maxHeartbeats 4000000 in
theorem ownstore_impl (w : World) (v vb : Value) (st : Sto) (hs : Sl w v (ss st.l)) (hb : Sl w vb (bs st.b)) (hl : st.l.length ≤ 1000000000) (hbl : st.b.length ≤ 1000000000) (hz : ∀ s ∈ st.l, s.size ≤ 1000000000000) (hh : st.h.r.size ≤ 1000000000000) :
  Calls Tryz.prog 58 #[.agg #[v, .int .i64 st.h.n, .string st.h.r, vb, .int .i64 st.s]] w fun e w' => ∃ v' vb', e = .returned (.agg #[v', .int .i64 st.h.n, .string st.h.r, vb', .int .i64 st.s]) ∧ Own w' w.heap.size w'.heap.size 9 v' (ss st.l) ∧ Own w' w.heap.size w'.heap.size 5 vb' (bs st.b) ∧ Below w.heap.size w w' := by
 obtain ⟨l, h, b, s⟩ := st
 simp only at *
 have HS : Hid (Sl w v (ss l)) := hs
 have HSB : Hid (Sl w vb (bs b)) := hb
 obtain ⟨ao0, cap0, rfl, hc0⟩ := hs.form
 obtain ⟨ao1, cap1, rfl, hc1⟩ := hb.form
 simp only [ss_len, bs_len] at *
 clear hs hb
 have B0 : Hid (Below w.heap.size w w) := Below.refl _ _
 obtain ⟨W1, HW1, b1, y1, hS1, r_a1, r_res1⟩ := Ke.l2 w #[.slice ao0 l.length cap0, .int .i64 h.n, .string h.r, .slice ao1 b.length cap1, .int .i64 s] 30 #[.slice none 0 0, .int .i64 0, .string ⟨#[]⟩, .slice none 0 0, .int .i64 0] 30
 have z1 := b1.size
 have B1 := Ke.b B0 b1
 have c_a1 := Ke.c r_a1
 have q1 : ∀ W v1, Sl W v1 (ss l) → _ := fun W v1 h1 => ownlog_impl W v1 l h h1 hl hz hh
 have q2 : ∀ W v1, Sl W v1 (bs b) → _ := fun W v1 h1 => Puts.own_any W v1 b h1 (by omega)
 clear hz
 go_enter Tryz.func58, Tryz.ntmps58
 go_wp2_with fail
 rw [HW1.out]
 refine wp_region_held_drew (S := fun w' => w'.cell? ⟨w.heap.size, 0, none⟩ = some (.slice ao0 l.length cap0) ∧ w'.cell? ⟨w.heap.size, 1, none⟩ = some (.int .i64 h.n) ∧ w'.cell? ⟨w.heap.size, 2, none⟩ = some (.string h.r) ∧ w'.cell? ⟨w.heap.size, 3, none⟩ = some (.slice ao1 b.length cap1) ∧ w'.cell? ⟨w.heap.size, 4, none⟩ = some (.int .i64 s)) (by kernel_rfl) ⟨(c_a1 0), (c_a1 1), (c_a1 2), (c_a1 3), (c_a1 4)⟩ (fun hHeld => ?_)
 refine Ke.y 0 rfl (fun _ _ _ h => h) ?_
 try simp only [Act.put, pu1, pu2, pu3, pu4, pu5, pu6]
 refine Ke.y 1 rfl (fun _ _ _ h => h) ?_
 try simp only [Act.put, pu1, pu2, pu3, pu4, pu5, pu6]
 refine Ke.y 3 rfl (fun _ _ _ h => h) ?_
 try simp only [Act.put, pu1, pu2, pu3, pu4, pu5, pu6]
 refine Ke.y 4 rfl (fun _ _ _ h => h) ?_
 try simp only [Act.put, pu1, pu2, pu3, pu4, pu5, pu6]
 refine Ke.y 6 rfl (fun _ _ _ h => h) ?_
 try simp only [Act.put, pu1, pu2, pu3, pu4, pu5, pu6]
 refine Ke.y 7 rfl (fun _ _ _ h => h) ?_
 try simp only [Act.put, pu1, pu2, pu3, pu4, pu5, pu6]
 refine Ke.z 2 rfl (fun K hK => ?_)
 go_simp
 refine (q1 W1.drew _ (Sl.later (w := W1) (HS.out.later B1.out) (Below.drew (Below.refl _ _)))).mono ?_
 rintro e W2 ⟨v_s, rfl, o_s2, b2⟩
 have b2 : Below W1.heap.size W1 W2 := (Below.drew (Below.refl _ _)).trans b2
 refine hK.out _ _ ⟨(keepR (W := W1) hHeld.1 b2), (keepR (W := W1) hHeld.2.1 b2), (keepR (W := W1) hHeld.2.2.1 b2), (keepR (W := W1) hHeld.2.2.2.1 b2), (keepR (W := W1) hHeld.2.2.2.2 b2)⟩ (fun hHeld => ?_)
 clear hK K
 try simp only [Act.put, pu1, pu2, pu3, pu4, pu5, pu6]
 have o_s2 : Own W2 W1.heap.size W2.heap.size 9 _ _ := o_s2
 obtain ⟨ao_s, L_s, cap_s, rfl, hL_s, hM_s⟩ := o_s2.form
 have o_s2 : Hid (Own W2 W1.heap.size W2.heap.size 9 (.slice ao_s L_s cap_s) (ss l)) := o_s2
 clear hL_s hM_s
 have z2 := b2.size
 have B2 := Ke.b B1 b2
 have r_res2 := Ke.r r_res1 b2
 clear r_a1 c_a1 r_res1
 refine Ke.z 5 rfl (fun K hK => ?_)
 go_simp
 refine (q2 W2 _ (HSB.out.later B2.out)).mono ?_
 rintro e W3 ⟨v_p, rfl, o_p3, b3⟩
 refine hK.out _ _ ⟨(keepR (W := W2) hHeld.1 b3), (keepR (W := W2) hHeld.2.1 b3), (keepR (W := W2) hHeld.2.2.1 b3), (keepR (W := W2) hHeld.2.2.2.1 b3), (keepR (W := W2) hHeld.2.2.2.2 b3)⟩ (fun hHeld => ?_)
 clear hK K
 try simp only [Act.put, pu1, pu2, pu3, pu4, pu5, pu6]
 obtain ⟨ao_p, L_p, cap_p, rfl, hL_p, hM_p⟩ := o_p3.form
 have o_p3 : Hid (Own W3 W2.heap.size W3.heap.size 5 (.slice ao_p L_p cap_p) (bs b)) := o_p3
 clear hL_p hM_p
 have z3 := b3.size
 have B3 := Ke.b B2 b3
 have r_res3 := Ke.r r_res2 b3
 have o_s3 := Ke.o o_s2 b3
 clear r_res2 o_s2
 refine Ke.y 8 rfl (fun _ _ _ h => h) ?_
 try simp only [Act.put, pu1, pu2, pu3, pu4, pu5, pu6]
 refine Ke.z 9 rfl (fun K hK => ?_)
 rw [if_pos (by rfl)]
 refine wp_store_row 30 _ _ rfl (w.heap.size + 1) (sc (.slice ao_s L_s cap_s) h (.slice ao_p L_p cap_p) s) rfl rfl 30 _ r_res3.out (sizeS _ _ _ _) rfl (oneS _ _ rfl rfl) ?_
 refine hK.out _ _ ⟨(cell_row (by show w.heap.size ≠ w.heap.size + 1; omega) hHeld.1), (cell_row (by show w.heap.size ≠ w.heap.size + 1; omega) hHeld.2.1), (cell_row (by show w.heap.size ≠ w.heap.size + 1; omega) hHeld.2.2.1), (cell_row (by show w.heap.size ≠ w.heap.size + 1; omega) hHeld.2.2.2.1), (cell_row (by show w.heap.size ≠ w.heap.size + 1; omega) hHeld.2.2.2.2)⟩ (fun hHeld => ?_)
 clear hK K
 refine wpAnyH_done (by kernel_rfl) ?_ _
 clear hHeld
 go_wp2
 refine bodyPost_ret (v := .agg (sc (.slice ao_s L_s cap_s) h (.slice ao_p L_p cap_p) s)) (results_cell_row rfl _ _ (w.heap.size + 1) 30 _ (0, 0) _ rfl (setRow_heap _ _ _ _ _ (0, 0) r_res3.out) Tryz.underlying30 rfl (sizeS _ _ _ _)) rfl ⟨.slice ao_s L_s cap_s, .slice ao_p L_p cap_p, rfl, (Own.setRow o_s3.out _ (by omega)).mono (by omega) (by rw [size_setRow]; omega), (Own.setRow o_p3.out _ (by omega)).mono (by omega) (by rw [size_setRow]; omega), below_setRow B3.out (by omega) _⟩
set_option maxRecDepth 1000000 in
set_option maxHeartbeats 4000000 in
theorem storeok_impl (w : World) (v vb : Value) (st : Sto) (hG : Glob w) (hN : NoC w) (hs : Sl w v (ss st.l)) (hb : Sl w vb (bs st.b)) (hby : Byt st.b) (hl : st.l.length ≤ 1000000000) (hbl : st.b.length ≤ 1000000000) (hz : ∀ s ∈ st.l, s.size ≤ 10000000000) :
  Calls Tryz.prog 26 #[.agg #[v, .int .i64 st.h.n, .string st.h.r, vb, .int .i64 st.s]] w fun e w' => e = .returned (.bool (storeOk st)) ∧ Below w.heap.size w w' := by
 obtain ⟨R, hR⟩ : ∃ R, storeOk st = R := ⟨_, rfl⟩
 have HR : Hid (storeOk st = R) := hR
 have HG : Hid (Glob w) := hG
 have HNC : Hid (NoC w) := hN
 rw [hR]
 obtain ⟨l, h, b, s⟩ := st
 simp only at *
 have HS : Hid (Sl w v (ss l)) := hs
 have HSB : Hid (Sl w vb (bs b)) := hb
 have HBY : Hid (Byt b) := hby
 obtain ⟨ao0, cap0, rfl, hc0⟩ := hs.form
 obtain ⟨ao1, cap1, rfl, hc1⟩ := hb.form
 simp only [ss_len, bs_len] at *
 clear hs hb hby hR hG hN
 have B0 : Hid (Below w.heap.size w w) := Below.refl _ _
 obtain ⟨W1, HW1, b1, y1, hS1, r_a1⟩ := Ke.l1 w #[.slice ao0 l.length cap0, .int .i64 h.n, .string h.r, .slice ao1 b.length cap1, .int .i64 s] 30
 have z1 := b1.size
 have B1 := Ke.b B0 b1
 have q1 : ∀ W v1, Glob W → Sl W v1 (ss l) → _ := fun W v1 h0 h1 => logok_impl W v1 l h h0 h1 (by omega) hz
 have HLG : Hid (logOk l h = true → l.length ≤ 200) := fun q => (logOk_yes q).1
 obtain ⟨A, hA⟩ : ∃ A, logOk l h = A := ⟨_, rfl⟩
 simp only [hA] at q1
 have HA : Hid (logOk l h = A) := hA
 clear hA hz
 by_cases h6 : (60000 : Int) < (b.length : Int)
 ·
  have d6 : decide ((60000 : Int) < (b.length : Int)) = true := decide_eq_true h6
  have HO : Hid (R = false) := by
   show _ = _
   rw [← HR.out]
   exact storeOk_no _ (fun q => by have h1 := q.2.1; have h2 := q.2.2.1; have h3 := q.2.2.2; simp only at h1 h2 h3; omega)
  go_enter Tryz.func26, Tryz.ntmps26
  go_wp2
  go_ret
  exact ⟨by rw [HO.out]; rfl, by rw [HW1.out]; exact B1.out⟩
 ·
  have d6 : decide ((60000 : Int) < (b.length : Int)) = false := decide_eq_false h6
  by_cases h7 : s < 0
  ·
   have d7 : decide (s < 0) = true := decide_eq_true h7
   have HO : Hid (R = false) := by
    show _ = _
    rw [← HR.out]
    exact storeOk_no _ (fun q => by have h1 := q.2.1; have h2 := q.2.2.1; have h3 := q.2.2.2; simp only at h1 h2 h3; omega)
   go_enter Tryz.func26, Tryz.ntmps26
   go_wp2
   go_ret
   exact ⟨by rw [HO.out]; rfl, by rw [HW1.out]; exact B1.out⟩
  ·
   have d7 : decide (s < 0) = false := decide_eq_false h7
   by_cases h8 : (b.length : Int) < s
   ·
    have d8 : decide ((b.length : Int) < s) = true := decide_eq_true h8
    have HO : Hid (R = false) := by
     show _ = _
     rw [← HR.out]
     exact storeOk_no _ (fun q => by have h1 := q.2.1; have h2 := q.2.2.1; have h3 := q.2.2.2; simp only at h1 h2 h3; omega)
    go_enter Tryz.func26, Tryz.ntmps26
    go_wp2
    go_ret
    exact ⟨by rw [HO.out]; rfl, by rw [HW1.out]; exact B1.out⟩
   ·
    have d8 : decide ((b.length : Int) < s) = false := decide_eq_false h8
    go_enter Tryz.func26, Tryz.ntmps26
    go_wp2_with fail
    rw [HW1.out]
    refine (q1 W1 _ (HG.out.later B1.out) (HS.out.later B1.out)).mono ?_
    rintro e W2 ⟨rfl, b2⟩
    have z2 := b2.size
    have B2 := Ke.b B1 b2
    have r_a2 := Ke.r r_a1 b2
    have c_a2 := Ke.c r_a2
    clear r_a1
    clear q1
    cases A
    ·
     have HO : Hid (R = false) := by
      show _ = _
      rw [← HR.out]
      exact storeOk_no _ (fun q => by have h1 := q.1; simp only at h1; rw [HA.out] at h1; cases h1)
     go_wp2
     go_ret
     exact ⟨by rw [HO.out]; rfl, B2.out⟩
    ·
     have h2 := HLG.out HA.out
     have HO : Hid (fin12 b l b.length 0 [] (headOf []) = R) := by
      show _ = _
      rw [← HR.out]
      exact (storeOk_fin ⟨l, h, b, s⟩ HA.out (by simp only; omega) (by simp only; omega)).symm
     have q3 := make_impl W2 _ _ b l (HG.out.later B2.out) (HNC.out.later B2.out) (HSB.out.later B2.out) HBY.out (by omega) (HS.out.later B2.out) h2
     rw [HO.out] at q3
     go_wp2_with fail
     refine (q3).mono ?_
     rintro e W3 ⟨rfl, b3⟩
     have z3 := b3.size
     have B3 := Ke.b B2 b3
     clear r_a2 c_a2
     go_wp2
     go_ret
     exact ⟨by cases R <;> rfl, B3.out⟩
end Go.Proofs.YtchonoonclllbaaGreatDoor.Sr
namespace Go.Proofs.YtchonoonclllbaaGreatDoor.He
open Go.RowKit Go.Proofs.YtchonoonclllbaaGreatDoor.Mem Go.Proofs.YtchonoonclllbaaGreatDoor.Laws Go.Proofs.YtchonoonclllbaaGreatDoor.Bytes Go.Proofs.YtchonoonclllbaaGreatDoor.Sha Go.Proofs.YtchonoonclllbaaGreatDoor.Tr
set_option linter.unusedVariables false
set_option linter.unusedSimpArgs false
theorem pk_one {a b : Hd} (h : eqH a b = true) : pk a b = 1 := by unfold pk; rw [if_pos h]
theorem pk_not {a b : Hd} (h : ¬ eqH a b = true) : (pk a b == 1) = false := by
 unfold pk
 rw [if_neg h, beq_eq_false_iff_ne]
 split <;> decide
theorem keepA {W : World} {p : Addr} {x : Value} (h : W.cell? p = some x) (o : Obj) : (W.alloc o).cell? p = some x := keepH h ((Below.refl _ _).alloc (Nat.le_refl _) o)
set_option maxRecDepth 1000000 in
set_option maxHeartbeats 2000000 in
theorem signed_impl (w : World) (v : Value) (t : List Hd) (h : Hd) (hs : Sh w v t) (hx : t.length ≤ 1000000000000) :
  Calls Tryz.prog 97 #[v, .agg #[.int .i64 h.n, .string h.r]] w fun e w' => e = .returned (.bool (signed t h)) ∧ Below w.heap.size w w' := by
 obtain ⟨W, hW, r0, bW, yW⟩ : ∃ W, Hid (w.alloc (.cells #[.int .i64 h.n, .string h.r] 26) = W) ∧ W.heap[w.heap.size]? = some (.cells (hc h) 26 (0, 0)) ∧ Below w.heap.size w W ∧ w.heap.size + 1 ≤ W.heap.size := ⟨_, rfl, heap_alloc_new w _, (Below.refl _ _).alloc (Nat.le_refl _) _, by simp⟩
 have HS : Hid (Sh W v t) := hs.later bW
 have HR : Hid (W.heap[w.heap.size]? = some (.cells (hc h) 26 (0, 0))) := r0
 have HBW : Hid (Below w.heap.size w W) := bW
 obtain ⟨ao, cap, rfl, hcap⟩ := Sh.form hs
 obtain ⟨S, hS⟩ : ∃ S, signed t h = S := ⟨_, rfl⟩
 rw [hS]
 have HSS : Hid (signed t h = S) := hS
 clear hs hS r0 bW
 go_enter Tryz.func97, Tryz.ntmps97
 go_wp2
 rw [hW.out]
 go_loopw [9] (fun i wr => ∃ k : Nat, k ≤ t.length ∧ i = .int .i64 (k : Int) ∧ Hid (signed (t.take k) h = false) ∧ Hid (Below W.heap.size W wr)) (fun i _ => t.length - (intOf i).toNat)
 case atStart => exact ⟨0, Nat.zero_le _, rfl, rfl, Below.refl _ _⟩
 case round =>
  obtain ⟨k, hk, rfl, HK, hB⟩ := hrel
  by_cases hlt : k < t.length
  ·
   obtain ⟨x, hx0⟩ : ∃ x, t[k]? = some x := ⟨t[k], by simp [hlt]⟩
   obtain ⟨b, off, cap', he, _, c0, c1⟩ := Sh.at (HS.out.later hB.out) hx0
   simp only [Value.slice.injEq] at he
   obtain ⟨rfl, _, rfl⟩ := he
   have p0 : wr.cell? ⟨w.heap.size, 0, none⟩ = some (.int .i64 h.n) := row_at (rowKeep HR.out hB.out) 0
   have p1 : wr.cell? ⟨w.heap.size, 1, none⟩ = some (.string h.r) := row_at (rowKeep HR.out hB.out) 1
   have a0 := keepA p0 (.cells #[.int .i64 x.n, .string x.r] 26)
   have a1 := keepA p1 (.cells #[.int .i64 x.n, .string x.r] 26)
   have q : ∀ X, _ := fun X => pair_impl X x h
   have HA : Hid (Below W.heap.size W (wr.alloc (.cells #[.int .i64 x.n, .string x.r] 26))) := hB.out.alloc hB.out.size _
   by_cases hxh : eqH x h = true
   ·
    have HF : Hid (S = true) := by show _ = _; rw [← HSS.out]; exact signed_yes hx0 hxh
    simp only [pk_one hxh] at q
    clear hx0 HK hxh
    go_wp2_with fail
    refine (q _).mono ?_
    rintro e w4 ⟨rfl, b4⟩
    clear a0 a1 p0 p1 c0 c1
    go_wp2
    go_ret
    exact ⟨by rw [HF.out]; rfl, HBW.out.trans ((HA.out.trans (b4.mono HA.out.size)).mono HBW.out.size)⟩
   ·
    have hxf : eqH x h = false := by simpa using hxh
    have HN : Hid (signed (t.take (k + 1)) h = false) := by show _ = _; rw [signed_snoc hx0, HK.out, hxf]; rfl
    have pn := pk_not hxh
    obtain ⟨P, hP⟩ : ∃ P, pk x h = P := ⟨_, rfl⟩
    rw [hP] at pn
    simp only [hP] at q
    clear hx0 HK hxh hxf hP
    go_wp2_with fail
    refine (q _).mono ?_
    rintro e w4 ⟨rfl, b4⟩
    clear a0 a1 p0 p1 c0 c1
    go_wp2
    go_roundw
    case rel => exact ⟨k + 1, by omega, by go_num, HN, HA.out.trans (b4.mono HA.out.size)⟩
    case measure => simp [intOf]; omega
  ·
   have HF : Hid (S = false) := by
    show _ = _
    have h1 := HK.out
    rw [List.take_of_length_le (by omega)] at h1
    rw [← HSS.out, h1]
   clear HK
   go_wp2
   go_ret
   exact ⟨by rw [HF.out]; rfl, HBW.out.trans (hB.out.mono HBW.out.size)⟩
end Go.Proofs.YtchonoonclllbaaGreatDoor.He
