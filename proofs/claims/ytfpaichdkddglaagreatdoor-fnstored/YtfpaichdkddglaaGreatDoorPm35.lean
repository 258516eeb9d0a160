/- Texts in one: KpF, HfO, LhA, LhN. -/
import Derived.Test.YtfpaichdkddglaaGreatDoorPm31
import Derived.Test.YtfpaichdkddglaaGreatDoorPm34
import Derived.Test.YtfpaichdkddglaaGreatDoorPm18
import Derived.Test.YtfpaichdkddglaaGreatDoorPm20
import Derived.Test.YtfpaichdkddglaaGreatDoorPm9
import Derived.Test.YtfpaichdkddglaaGreatDoorPm33
import Derived.Test.YtfpaichdkddglaaGreatDoorPm10
namespace Go.Proofs.YtfpaichdkddglaaGreatDoor.Sr
open Go.RowKit Go.Proofs.YtfpaichdkddglaaGreatDoor.Mem Go.Proofs.YtfpaichdkddglaaGreatDoor.Laws Go.Proofs.YtfpaichdkddglaaGreatDoor.Bytes Go.Proofs.YtfpaichdkddglaaGreatDoor.Sha Go.Proofs.YtfpaichdkddglaaGreatDoor.Tr Go.Proofs.YtfpaichdkddglaaGreatDoor.He Go.Proofs.YtfpaichdkddglaaGreatDoor.Lg
set_option linter.unusedVariables false
set_option linter.unusedSimpArgs false
theorem getC_some {xs : List Int} {a : Nat} {h : Hd} {x : List ByteArray} {p : Int} (hb : Byt xs) (hg : getC xs (a : Int) = (h, x, p, true)) : ∃ q : Nat, p = (q : Int) ∧ a < q ∧ q ≤ xs.length ∧ 1 ≤ x.length ∧ x.length ≤ 200 := by
 obtain ⟨q, rfl, hq, hqx, _, h1, h2, _⟩ := put_get hb hg
 have := put_pos h x
 exact ⟨q, rfl, by omega, hqx, h1, h2⟩
theorem far_len {T x : List ByteArray} {m : Nat} (hm : m ≤ T.length) (hx : T.length - m < x.length) : ¬ (T.take m ++ x) <+: T := by
 intro h
 have := h.length_le
 rw [List.length_append, List.length_take] at this
 omega
theorem allE_take {T x : List ByteArray} {m : Nat} (h2 : T.length ≤ 200) (hm : m ≤ T.length) (hx : x <+: T.drop m) : Ed.allE (m : Int) (Ed.edge (T.take m)) x = (((m + x.length : Nat) : Int), Ed.edge (T.take (m + x.length)), true) := by
 obtain ⟨e1, e2⟩ := take_more hm hx
 have hl : (T.take m).length = m := by rw [List.length_take]; omega
 have := Ed.allE_edge (l := T.take m) (r := x) (by omega)
 rw [hl, e1, List.length_take] at this
 rw [this]
 congr 2
 omega
set_option maxRecDepth 1000000 in
set_option maxHeartbeats 8000000 in
theorem make_impl (w : World) (v vt : Value) (xs : List Int) (T : List ByteArray) (hG : Glob w) (hN : NoC w) (hs : Sl w v (bs xs)) (hb : Byt xs) (hx : xs.length ≤ 1000000000000) (ht : Sl w vt (ss T)) (h2 : T.length ≤ 200) :
  Calls Tryz.prog 34 #[v, vt] w fun e w' => e = .returned (.bool (fin12 xs T xs.length 0 [] (headOf []))) ∧ Below w.heap.size w w' := by
 obtain ⟨R, hR⟩ : ∃ R, fin12 xs T xs.length 0 [] (headOf []) = R := ⟨_, rfl⟩
 have HF0 : Hid (xs.length - 0 ≤ xs.length ∧ fin12 xs T xs.length 0 (T.take 0) (headOf []) = R) := ⟨by omega, hR⟩
 rw [hR]
 have HS : Hid (Sl w v (bs xs)) := hs
 have HT : Hid (Sl w vt (ss T)) := ht
 have HBY : Hid (Byt xs) := hb
 have HG : Hid (Glob w) := hG
 have HN : Hid (NoC w) := hN
 obtain ⟨ao0, cap0, rfl, hc0⟩ := hs.form
 obtain ⟨ao1, cap1, rfl, hc1, hn1, _⟩ := ht
 rw [ss_len] at *
 rw [bs_len] at *
 clear hs hb hR hG hN
 have B0 : Hid (Below w.heap.size w w) := Below.refl _ _
 obtain ⟨W1, HW1, b1, y1, hS1, r_made1⟩ : ∃ X, Hid ((w.alloc (.cells #[.int .i64 0, .slice none 0 0] 92)) = X) ∧ Below w.heap.size w X ∧ w.heap.size + 1 ≤ X.heap.size ∧ Hid (X.heap.size = w.heap.size + 1) ∧ Hid (X.heap[w.heap.size]? = some (.cells #[.int .i64 0, .slice none 0 0] 92 (0, 0))) := ⟨_, rfl, ((Below.refl _ _).alloc (Nat.le_refl _) _), by simp, by show _ = _; simp, (by show _ = _; exact alloc_nth1_0 w _)⟩
 have B1 : Hid (Below w.heap.size w W1) := B0.out.trans (b1.mono B0.out.size)
 by_cases hT0 : 0 < T.length
 ·
  obtain ⟨bT, offT, capT, he, hcapT⟩ := slForm HT.out (by rw [ss_len]; omega)
  simp only [Value.slice.injEq] at he
  obtain ⟨rfl, -, rfl⟩ := he
  clear hcapT hn1
  have qg : ∀ W, Below w.heap.size w W → ∀ a : Nat, a ≤ xs.length → _ := fun W hW a ha => getc_land W _ xs (a : Int) (HG.out.later hW) (HN.out.later hW) (HS.out.later hW) HBY.out hx (by omega) (by omega)
  go_enter Tryz.func34, Tryz.ntmps34
  go_wp2_with fail
  rw [HW1.out]
  go_loopw [6] (fun iv wr => ∃ (a m f : Nat) (hd : Hd) (ao : Option Addr) (L cap : Nat), a ≤ xs.length ∧ m ≤ T.length ∧ iv = .int .i64 (a : Int) ∧ Hid (xs.length - a ≤ f ∧ fin12 xs T f a (T.take m) hd = R) ∧ Hid (wr.heap[w.heap.size]? = some (.cells #[.int .i64 (m : Int), .slice ao L cap] 92 (0, 0))) ∧ Hid (Own wr W1.heap.size wr.heap.size 9 (.slice ao L cap) (ss (Ed.edge (T.take m)))) ∧ Hid (Below w.heap.size w wr) ∧ W1.heap.size ≤ wr.heap.size) (fun iv _ => xs.length - (intOf iv).toNat)
  case atStart => exact ⟨0, 0, xs.length, headOf [], none, 0, 0, Nat.zero_le _, Nat.zero_le _, rfl, HF0, r_made1, by show Own _ _ _ _ _ _; rw [List.take_zero, Ed.edge_nil]; exact ownNil _ _ _ _, B1, Nat.le_refl _⟩
  case round =>
   obtain ⟨a, m, f, hd, ao_v, L_v, cap_v, ha, hm, rfl, HF, r_made2, o_v2, B2, z2⟩ := hrel
   obtain ⟨W2, hW2⟩ : ∃ X, X = wr := ⟨_, rfl⟩
   subst hW2
   clear HF0 r_made1
   have c_made2_0 : W2.cell? ⟨w.heap.size, 0, none⟩ = some (.int .i64 (m : Int)) := row_at r_made2.out 0
   by_cases hlt : a < xs.length
   ·
    have hlt2 : (a : Int) < (xs.length : Int) := by omega
    have q2 := qg W2 B2.out a ha
    obtain ⟨h, x, p, ok, hg⟩ : ∃ h x p ok, getC xs (a : Int) = (h, x, p, ok) := ⟨_, _, _, _, rfl⟩
    unfold GotC at q2
    rw [hg] at q2
    simp only at q2
    have hx2 : x.length ≤ 200 := by
     have h9 := getC_len xs (a : Int)
     rw [hg] at h9
     exact h9
    have HGC : Hid (getC xs (a : Int) = (h, x, p, ok)) := hg
    have HXZ : Hid (∀ s ∈ x, s.size ≤ 1000000000) := getC_size HBY.out hg
    clear hg
    go_wp2_with fail
    refine (q2).mono ?_
    rintro e W3 ⟨v_t, rfl, o_t3, b3⟩
    obtain ⟨ao_t, L_t, cap_t, rfl, hL_t, hM_t⟩ := o_t3.form
    have o_t3 : Hid (Own W3 W2.heap.size W3.heap.size 9 (.slice ao_t L_t cap_t) (ss x)) := o_t3
    clear hL_t hM_t
    have z3 : W2.heap.size ≤ W3.heap.size := b3.size
    have B3 : Hid (Below w.heap.size w W3) := B2.out.trans (b3.mono B2.out.size)
    have r_made3 : Hid (W3.heap[w.heap.size]? = some (.cells #[.int .i64 (m : Int), .slice ao_v L_v cap_v] 92 (0, 0))) := rowKeep r_made2.out b3
    have o_v3 : Hid (Own W3 (W1.heap.size) (W2.heap.size) 9 (.slice ao_v L_v cap_v) (ss (Ed.edge (T.take m)))) := Own.later o_v2.out b3 (by omega)
    have c_made3_0 : W3.cell? ⟨w.heap.size, 0, none⟩ = some (.int .i64 (m : Int)) := row_at r_made3.out 0
    clear r_made2 c_made2_0 o_v2
    have hLt : L_t ≤ x.length ∧ x.length ≤ L_t := by obtain ⟨a9, L9, c9, he, h1, h2⟩ := Mem.Own.form o_t3.out; injection he with _ he2 _; rw [ss_len] at h1 h2; omega
    clear q2
    have a_made3_0 : ∀ o, (W3.alloc o).cell? ⟨w.heap.size, 0, none⟩ = some (.int .i64 (m : Int)) := fun o => keepR c_made3_0 ((Below.refl _ _).alloc (Nat.le_refl _) o)
    obtain ⟨W4, HW4, b4, y4, hS4, r_h4⟩ : ∃ X, Hid ((W3.alloc (.cells #[.int .i64 h.n, .string h.r] 28)) = X) ∧ Below W3.heap.size W3 X ∧ W3.heap.size + 1 ≤ X.heap.size ∧ Hid (X.heap.size = W3.heap.size + 1) ∧ Hid (X.heap[W3.heap.size]? = some (.cells #[.int .i64 h.n, .string h.r] 28 (0, 0))) := ⟨_, rfl, ((Below.refl _ _).alloc (Nat.le_refl _) _), by simp, by show _ = _; simp, (by show _ = _; exact alloc_nth1_0 W3 _)⟩
    have z4 : W3.heap.size ≤ W4.heap.size := b4.size
    have B4 : Hid (Below w.heap.size w W4) := B3.out.trans (b4.mono B3.out.size)
    have r_made4 : Hid (W4.heap[w.heap.size]? = some (.cells #[.int .i64 (m : Int), .slice ao_v L_v cap_v] 92 (0, 0))) := rowKeep r_made3.out b4
    have o_v4 : Hid (Own W4 (W1.heap.size) (W2.heap.size) 9 (.slice ao_v L_v cap_v) (ss (Ed.edge (T.take m)))) := Own.later o_v3.out b4 (by omega)
    have o_t4 : Hid (Own W4 (W2.heap.size) (W3.heap.size) 9 (.slice ao_t L_t cap_t) (ss x)) := Own.later o_t3.out b4 (by omega)
    clear r_made3 c_made3_0 o_v3 o_t3
    have hmT : (m : Int) ≤ (T.length : Int) := by omega
    by_cases hcm : cap1 = m
    ·
     cases ok
     ·
      have HO : Hid (R = false) := by show _ = _; rw [← HF.out.2]; exact fin_no hlt HF.out.1 (by rw [HGC.out])
      go_wp2
      go_ret
      exact ⟨by rw [HO.out]; rfl, (by rw [HW4.out]; exact B4.out)⟩
     ·
      obtain ⟨q, rfl, hq1, hq2, hx1, _⟩ := getC_some HBY.out HGC.out
      have hgt : T.length - m < x.length := by omega
      have HO : Hid (R = false) := by show _ = _; rw [← HF.out.2]; exact fin_far hlt HF.out.1 (by rw [HGC.out]; exact far_len hm hgt)
      go_wp2
      go_ret
      exact ⟨by rw [HO.out]; rfl, (by rw [HW4.out]; exact B4.out)⟩
    ·
     obtain ⟨d, hd0⟩ : ∃ d, T.length - m = d := ⟨_, rfl⟩
     have hdm : d + m = T.length ∧ d ≤ T.length := by omega
     cases ok
     ·
      have HO : Hid (R = false) := by show _ = _; rw [← HF.out.2]; exact fin_no hlt HF.out.1 (by rw [HGC.out])
      go_wp2
      go_ret
      exact ⟨by rw [HO.out]; rfl, (by rw [HW4.out]; exact B4.out)⟩
     ·
      obtain ⟨q, rfl, hq1, hq2, hx1, _⟩ := getC_some HBY.out HGC.out
      by_cases hgt : T.length - m < x.length
      ·
       have dt : decide ((d : Int) < (L_t : Int)) = true := decide_eq_true (by omega)
       have HO : Hid (R = false) := by show _ = _; rw [← HF.out.2]; exact fin_far hlt HF.out.1 (by rw [HGC.out]; exact far_len hm hgt)
       go_wp2
       go_ret
       exact ⟨by rw [HO.out]; rfl, (by rw [HW4.out]; exact B4.out)⟩
      ·
       have dt : decide ((d : Int) < (L_t : Int)) = false := decide_eq_false (by omega)
       have dl : (L_t : Int) ≤ (cap1 : Int) - (m : Int) := by omega
       have dl2 : L_t ≤ cap1 - m := by omega
       have dl3 : (L_t : Int) ≤ ((cap1 - m : Nat) : Int) := by omega
       have hLx : L_t = x.length := by omega
       have HR2 : Hid (∀ W, Below w.heap.size w W → Sl W (.slice (some ⟨bT, offT + m, none⟩) L_t (cap1 - m)) (ss ((T.drop m).take x.length))) := by
        intro W hW
        have s1 := slBack (HT.out.later hW) m (by rw [ss_len]; omega)
        have s2 := Sl.front s1 L_t (by rw [List.length_drop, ss_len]; omega)
        have e : ss ((T.drop m).take x.length) = ((ss T).drop m).take L_t := by unfold ss; rw [List.map_take, List.map_drop, hLx]
        rw [e]
        exact s2
       clear hLx
       obtain ⟨t, hte⟩ : ∃ t : Bool, t = true ↔ x = (T.drop m).take x.length := ⟨decide (x = (T.drop m).take x.length), by simp⟩
       have HTE : Hid (t = true ↔ x = (T.drop m).take x.length) := hte
       clear hte
       go_wp2_with fail
       rw [HW4.out]
       clear a_made3_0
       refine (Cl.same_impl W4 _ _ x ((T.drop m).take x.length) t HTE.out o_t4.out.sl (HR2.out _ B4.out) (by omega) (by rw [List.length_take]; omega)).mono ?_
       rintro e W5 ⟨rfl, h5, _⟩
       have b5 : Below W4.heap.size W4 W5 := h5 _
       clear h5
       have B5 : Hid (Below w.heap.size w W5) := B4.out.trans (b5.mono B4.out.size)
       have r_made5 : Hid (W5.heap[w.heap.size]? = some (.cells #[.int .i64 (m : Int), .slice ao_v L_v cap_v] 92 (0, 0))) := rowKeep r_made4.out b5
       have r_h5 : Hid (W5.heap[W3.heap.size]? = some (.cells #[.int .i64 h.n, .string h.r] 28 (0, 0))) := rowKeep r_h4.out b5
       have o_v5 : Hid (Own W5 (W1.heap.size) (W2.heap.size) 9 (.slice ao_v L_v cap_v) (ss (Ed.edge (T.take m)))) := Own.later o_v4.out b5 (by omega)
       have o_t5 : Hid (Own W5 (W2.heap.size) (W3.heap.size) 9 (.slice ao_t L_t cap_t) (ss x)) := Own.later o_t4.out b5 (by omega)
       have c_made5_0 : W5.cell? ⟨w.heap.size, 0, none⟩ = some (.int .i64 (m : Int)) := row_at r_made5.out 0
       have c_made5_1 : W5.cell? ⟨w.heap.size, 1, none⟩ = some (.slice ao_v L_v cap_v) := row_at r_made5.out 1
       clear r_made4 r_h4 o_v4 o_t4
       cases t
       ·
        have HO : Hid (R = false) := by
         show _ = _
         rw [← HF.out.2]
         refine fin_far hlt HF.out.1 ?_
         rw [HGC.out]
         show ¬ (T.take m ++ x) <+: T
         intro h9
         have h8 := (pre_eq (by rw [List.length_drop]; omega)).2 ((pre_take hm).1 h9)
         exact absurd (HTE.out.2 h8) (by simp)
        go_wp2
        go_ret
        exact ⟨by rw [HO.out]; rfl, B5.out⟩
       ·
        have hpre : x <+: T.drop m := (pre_eq (by rw [List.length_drop]; omega)).1 (HTE.out.1 rfl)
        obtain ⟨e5, e6⟩ := take_more hm hpre
        have e7 := allE_take h2 hm hpre
        have e8 := headOf_edge h2 e6
        obtain ⟨m2, hm2⟩ : ∃ m2, m + x.length = m2 := ⟨_, rfl⟩
        rw [hm2] at e5 e6 e7 e8
        obtain ⟨D, hD⟩ : ∃ D, Ed.rootE (m2 : Int) (Ed.edge (T.take m2)) = D := ⟨_, rfl⟩
        have edl : ∀ k, (Ed.edge (T.take k)).length ≤ 1000000 := fun k => by
         rw [Ed.edge_len]
         have h9 : (T.take k).length < 256 := by rw [List.length_take]; omega
         have := Ed.popc_le ⟨(T.take k).length, h9⟩
         simp only at this
         omega
        have qa : ∀ W v1 v2, Glob W → Sl W v1 (ss (Ed.edge (T.take m))) → Sl W v2 (ss x) → _ := fun W v1 v2 g1 h1 h3 => Ed.all_impl W (m : Int) v1 v2 (Ed.edge (T.take m)) x g1 h1 h3 (by have := edl m; omega) (fun s hs => by have := Ed.edge_sizes _ s hs; omega) (by omega) (fun s hs => by have := HXZ.out s hs; omega)
        simp only [e7] at qa
        have qr : ∀ W v1, Glob W → Sl W v1 (ss (Ed.edge (T.take m2))) → _ := fun W v1 g1 h1 => Ed.rootE_impl W (m2 : Int) v1 (Ed.edge (T.take m2)) g1 h1 (by have := edl m2; omega) (fun s hs => by have := Ed.edge_sizes _ s hs; omega)
        simp only [hD] at qr
        rw [hD] at e8
        have HH : Hid (headOf (T.take m ++ x) = ⟨(m2 : Int), D⟩) := by show _ = _; rw [e5]; exact e8
        have HE5 : Hid (T.take m ++ x = T.take m2) := e5
        have hm2T : m2 ≤ T.length := e6
        obtain ⟨E, hE⟩ : ∃ E, eqH h ⟨(m2 : Int), D⟩ = E := ⟨_, rfl⟩
        have e1 : ∀ W, (binOp .neq 28 (.agg #[.int .i64 h.n, .string h.r]) (.agg #[.int .i64 (m2 : Int), .string D])).run Tryz.prog W = .ok (.bool (!E)) W := fun W => by have h9 := neqH W h ⟨(m2 : Int), D⟩; rw [hE] at h9; exact h9
        have e2 : ∀ W op y z xs ys, _ := fun W op y z xs ys => grdH W op y z xs ys
        have HE : Hid (eqH h ⟨(m2 : Int), D⟩ = E) := hE
        clear hE hD e5 e6 e7 e8 edl hpre hm2 HTE HR2
        go_wp2_with fail
        refine (qa W5 _ _ (HG.out.later B5.out) o_v5.out.sl o_t5.out.sl).mono ?_
        rintro e W6 ⟨v_e, rfl, o_e6, b6⟩
        obtain ⟨ao_e, L_e, cap_e, rfl, hL_e, hM_e⟩ := o_e6.form
        have o_e6 : Hid (Own W6 W5.heap.size W6.heap.size 9 (.slice ao_e L_e cap_e) (ss (Ed.edge (T.take m2)))) := o_e6
        clear hL_e hM_e
        have z6 : W5.heap.size ≤ W6.heap.size := b6.size
        have B6 : Hid (Below w.heap.size w W6) := B5.out.trans (b6.mono B5.out.size)
        have r_made6 : Hid (W6.heap[w.heap.size]? = some (.cells #[.int .i64 (m : Int), .slice ao_v L_v cap_v] 92 (0, 0))) := rowKeep r_made5.out b6
        have r_h6 : Hid (W6.heap[W3.heap.size]? = some (.cells #[.int .i64 h.n, .string h.r] 28 (0, 0))) := rowKeep r_h5.out b6
        clear r_made5 c_made5_0 c_made5_1 r_h5 o_v5 o_t5
        go_wp2_with (refine wpl_partG rfl 92 _ _ rfl (w.heap.size) 0 (Ed.ee (m2 : Int) (.slice ao_e L_e cap_e)) rfl rfl [.int .i64 (m : Int), .slice ao_v L_v cap_v] 92 r_made6.out (Nat.le_of_ble_eq_true rfl) (Ed.sizeEd _ _) (Ed.oneEd _ rfl) [.int .i64 (m2 : Int), .slice ao_e L_e cap_e] rfl ?_)
        intro W7 r_made7 g7
        have r_made7 : Hid (W7.heap[w.heap.size]? = some (.cells #[.int .i64 (m2 : Int), .slice ao_e L_e cap_e] 92 (0, 0))) := r_made7
        have z7 : W6.heap.size ≤ W7.heap.size := g7.size
        have B7 : Hid (Below w.heap.size w W7) := belowGro B6.out g7 B6.out.size (fun k9 h9 => by injection h9 with h9; have := B6.out.size; omega)
        have r_h7 : Hid (W7.heap[W3.heap.size]? = some (.cells #[.int .i64 h.n, .string h.r] 28 (0, 0))) := rowGro r_h6.out g7 (fun h9 => by injection h9 with h9; omega)
        have o_e7 : Hid (Own W7 (W5.heap.size) (W6.heap.size) 9 (.slice ao_e L_e cap_e) (ss (Ed.edge (T.take m2)))) := Own.gro o_e6.out g7 (fun k9 h9 e9 => Own.neRow o_e6.out r_made6.out (by decide) (h9.trans e9.symm))
        have c_made7_0 : W7.cell? ⟨w.heap.size, 0, none⟩ = some (.int .i64 (m2 : Int)) := row_at r_made7.out 0
        have c_made7_1 : W7.cell? ⟨w.heap.size, 1, none⟩ = some (.slice ao_e L_e cap_e) := row_at r_made7.out 1
        have c_h7_0 : W7.cell? ⟨W3.heap.size, 0, none⟩ = some (.int .i64 h.n) := row_at r_h7.out 0
        have c_h7_1 : W7.cell? ⟨W3.heap.size, 1, none⟩ = some (.string h.r) := row_at r_h7.out 1
        clear r_h6 o_e6
        clear r_made6
        clear g7
        go_wp2_with fail
        refine wp_region_held_drew (S := fun w' => w'.cell? ⟨W3.heap.size, 0, none⟩ = some (.int .i64 h.n) ∧ w'.cell? ⟨W3.heap.size, 1, none⟩ = some (.string h.r) ∧ w'.cell? ⟨w.heap.size, 0, none⟩ = some (.int .i64 (m2 : Int)) ∧ w'.cell? ⟨w.heap.size, 1, none⟩ = some (.slice ao_e L_e cap_e)) (by kernel_rfl) ⟨c_h7_0, c_h7_1, c_made7_0, c_made7_1⟩ (fun hHeld => ?_)
        (refine wpAnyH_take (i := 0) (v := ?v0x9) rfl (by kernel_rfl) (by kernel_rfl) (by kernel_rfl) (fun _ _ _ h => h) (Or.inl ⟨by rfl, ?hy0x9⟩) (by assumption) ?rest0x9; case hy0x9 => (intro w hSw; (try dsimp only at hSw); go_split_ands; go_simp; (try with_reducible rfl)))
        try simp only [Act.put, pu1, pu2, pu3, pu4, pu5, pu6]
        (refine wpAnyH_take (i := 1) (v := ?v1x10) rfl (by kernel_rfl) (by kernel_rfl) (by kernel_rfl) (fun _ _ _ h => h) (Or.inl ⟨by rfl, ?hy1x10⟩) (by assumption) ?rest1x10; case hy1x10 => (intro w hSw; (try dsimp only at hSw); go_split_ands; go_simp; (try with_reducible rfl)))
        try simp only [Act.put, pu1, pu2, pu3, pu4, pu5, pu6]
        (refine wpAnyH_take (i := 2) (v := ?v2x11) rfl (by kernel_rfl) (by kernel_rfl) (by kernel_rfl) (fun _ _ _ h => h) (Or.inl ⟨by rfl, ?hy2x11⟩) (by assumption) ?rest2x11; case hy2x11 => (intro w hSw; (try dsimp only at hSw); go_split_ands; go_simp; (try with_reducible rfl)))
        try simp only [Act.put, pu1, pu2, pu3, pu4, pu5, pu6]
        (refine wpAnyH_take (i := 3) (v := ?v3x12) rfl (by kernel_rfl) (by kernel_rfl) (by kernel_rfl) (fun _ _ _ h => h) (Or.inl ⟨by rfl, ?hy3x12⟩) (by assumption) ?rest3x12; case hy3x12 => (intro w hSw; (try dsimp only at hSw); go_split_ands; go_simp; (try with_reducible rfl)))
        try simp only [Act.put, pu1, pu2, pu3, pu4, pu5, pu6]
        refine wpAnyH_ready (rs := [4]) (by kernel_rfl) (by simp) ?_
        refine AllReadyH.cons rfl (fun K hK => ?_) AllReadyH.nil
        go_simp
        refine (qr W7.drew _ (HG.out.later (Below.drew B7.out)) (Own.sl (w := W7) o_e7.out)).mono ?_
        rintro e W8 ⟨rfl, b8⟩
        have b8 : Below W7.heap.size W7 W8 := (Below.drew (Below.refl _ _)).trans b8
        refine hK.out _ _ ⟨(keepR (W := W7) hHeld.1 b8), (keepR (W := W7) hHeld.2.1 b8), (keepR (W := W7) hHeld.2.2.1 b8), (keepR (W := W7) hHeld.2.2.2 b8)⟩ (fun hHeld => ?_)
        clear hK K
        try simp only [Act.put, pu1, pu2, pu3, pu4, pu5, pu6]
        have z8 : W7.heap.size ≤ W8.heap.size := b8.size
        have B8 : Hid (Below w.heap.size w W8) := B7.out.trans (b8.mono B7.out.size)
        have r_made8 : Hid (W8.heap[w.heap.size]? = some (.cells #[.int .i64 (m2 : Int), .slice ao_e L_e cap_e] 92 (0, 0))) := rowKeep r_made7.out b8
        have o_e8 : Hid (Own W8 (W5.heap.size) (W6.heap.size) 9 (.slice ao_e L_e cap_e) (ss (Ed.edge (T.take m2)))) := Own.later o_e7.out b8 (by omega)
        clear r_made7 c_made7_0 c_made7_1 r_h7 c_h7_0 c_h7_1 o_e7
        (refine wpAnyH_take (i := 5) (v := ?v5x13) rfl (by kernel_rfl) (by kernel_rfl) (by kernel_rfl) (fun _ _ _ h => h) (Or.inl ⟨by rfl, ?hy5x13⟩) (by assumption) ?rest5x13; case hy5x13 => (intro w hSw; (try dsimp only at hSw); go_split_ands; go_simp; (try with_reducible rfl)))
        try simp only [Act.put, pu1, pu2, pu3, pu4, pu5, pu6]
        (refine wpAnyH_take (i := 6) (v := ?v6x14) rfl (by kernel_rfl) (by kernel_rfl) (by kernel_rfl) (fun _ _ _ h => h) (Or.inl ⟨by rfl, ?hy6x14⟩) (by assumption) ?rest6x14; case hy6x14 => (intro w hSw; (try dsimp only at hSw); go_split_ands; go_simp; (try with_reducible rfl)))
        try simp only [Act.put, pu1, pu2, pu3, pu4, pu5, pu6]
        refine wpAnyH_done (by kernel_rfl) ?_ _
        clear hHeld
        cases E
        ·
         have HO : Hid (R = false) := by show _ = _; rw [← HF.out.2]; exact fin_head hlt HF.out.1 (by rw [HGC.out, HH.out]; exact HE.out)
         go_wp2
         go_ret
         exact ⟨by rw [HO.out]; rfl, B8.out⟩
        ·
         obtain ⟨f', hf1, hf2⟩ := fin_go (T := T) (l := T.take m) (hd := hd) hlt HF.out.1 HGC.out hq1 (by rw [HE5.out, List.length_take]; omega) (by rw [HH.out]; exact HE.out)
         have HF9 : Hid (xs.length - q ≤ f' ∧ fin12 xs T f' q (T.take m2) h = R) := ⟨hf1, by rw [← HE5.out, ← hf2]; exact HF.out.2⟩
         clear hf1 hf2
         go_wp2
         go_roundw
         case rel => exact ⟨q, m2, f', h, ao_e, L_e, cap_e, hq2, hm2T, rfl, HF9, r_made8, Own.mono o_e8.out (by omega) (by omega), B8, by omega⟩
         case measure => simp [intOf]; omega
   ·
    have hlt2 : ¬ (a : Int) < (xs.length : Int) := by omega
    have HO : Hid (R = ((m : Int) == (T.length : Int))) := by
     show _ = _
     rw [← HF.out.2, fin_end hlt]
     by_cases h9 : m = T.length
     ·
      have h8 : T.take m = T := List.take_of_length_le (by omega)
      have h7 : (m : Int) = (T.length : Int) := by omega
      simp [h8, h7]
     ·
      have h8 : ¬ T.take m = T := fun e9 => by have := congrArg List.length e9; rw [List.length_take] at this; omega
      have h7 : ¬ (m : Int) = (T.length : Int) := by omega
      simp [h8, h7]
    go_wp2
    go_ret
    exact ⟨by rw [HO.out]; rfl, B2.out⟩
 ·
  have qg : ∀ W, Below w.heap.size w W → ∀ a : Nat, a ≤ xs.length → _ := fun W hW a ha => getc_land W _ xs (a : Int) (HG.out.later hW) (HN.out.later hW) (HS.out.later hW) HBY.out hx (by omega) (by omega)
  go_enter Tryz.func34, Tryz.ntmps34
  go_wp2_with fail
  rw [HW1.out]
  go_loopw [6] (fun iv wr => ∃ (a m f : Nat) (hd : Hd) (ao : Option Addr) (L cap : Nat), a ≤ xs.length ∧ m ≤ T.length ∧ iv = .int .i64 (a : Int) ∧ Hid (xs.length - a ≤ f ∧ fin12 xs T f a (T.take m) hd = R) ∧ Hid (wr.heap[w.heap.size]? = some (.cells #[.int .i64 (m : Int), .slice ao L cap] 92 (0, 0))) ∧ Hid (Own wr W1.heap.size wr.heap.size 9 (.slice ao L cap) (ss (Ed.edge (T.take m)))) ∧ Hid (Below w.heap.size w wr) ∧ W1.heap.size ≤ wr.heap.size) (fun iv _ => xs.length - (intOf iv).toNat)
  case atStart => exact ⟨0, 0, xs.length, headOf [], none, 0, 0, Nat.zero_le _, Nat.zero_le _, rfl, HF0, r_made1, by show Own _ _ _ _ _ _; rw [List.take_zero, Ed.edge_nil]; exact ownNil _ _ _ _, B1, Nat.le_refl _⟩
  case round =>
   obtain ⟨a, m, f, hd, ao_v, L_v, cap_v, ha, hm, rfl, HF, r_made2, o_v2, B2, z2⟩ := hrel
   obtain ⟨W2, hW2⟩ : ∃ X, X = wr := ⟨_, rfl⟩
   subst hW2
   clear HF0 r_made1
   have c_made2_0 : W2.cell? ⟨w.heap.size, 0, none⟩ = some (.int .i64 (m : Int)) := row_at r_made2.out 0
   by_cases hlt : a < xs.length
   ·
    have hlt2 : (a : Int) < (xs.length : Int) := by omega
    have q2 := qg W2 B2.out a ha
    obtain ⟨h, x, p, ok, hg⟩ : ∃ h x p ok, getC xs (a : Int) = (h, x, p, ok) := ⟨_, _, _, _, rfl⟩
    unfold GotC at q2
    rw [hg] at q2
    simp only at q2
    have hx2 : x.length ≤ 200 := by
     have h9 := getC_len xs (a : Int)
     rw [hg] at h9
     exact h9
    have HGC : Hid (getC xs (a : Int) = (h, x, p, ok)) := hg
    clear hg
    go_wp2_with fail
    refine (q2).mono ?_
    rintro e W3 ⟨v_t, rfl, o_t3, b3⟩
    obtain ⟨ao_t, L_t, cap_t, rfl, hL_t, hM_t⟩ := o_t3.form
    have o_t3 : Hid (Own W3 W2.heap.size W3.heap.size 9 (.slice ao_t L_t cap_t) (ss x)) := o_t3
    clear hL_t hM_t
    have z3 : W2.heap.size ≤ W3.heap.size := b3.size
    have B3 : Hid (Below w.heap.size w W3) := B2.out.trans (b3.mono B2.out.size)
    have r_made3 : Hid (W3.heap[w.heap.size]? = some (.cells #[.int .i64 (m : Int), .slice ao_v L_v cap_v] 92 (0, 0))) := rowKeep r_made2.out b3
    have o_v3 : Hid (Own W3 (W1.heap.size) (W2.heap.size) 9 (.slice ao_v L_v cap_v) (ss (Ed.edge (T.take m)))) := Own.later o_v2.out b3 (by omega)
    have c_made3_0 : W3.cell? ⟨w.heap.size, 0, none⟩ = some (.int .i64 (m : Int)) := row_at r_made3.out 0
    clear r_made2 c_made2_0 o_v2
    have hLt : L_t ≤ x.length ∧ x.length ≤ L_t := by obtain ⟨a9, L9, c9, he, h1, h2⟩ := Mem.Own.form o_t3.out; injection he with _ he2 _; rw [ss_len] at h1 h2; omega
    clear q2
    have a_made3_0 : ∀ o, (W3.alloc o).cell? ⟨w.heap.size, 0, none⟩ = some (.int .i64 (m : Int)) := fun o => keepR c_made3_0 ((Below.refl _ _).alloc (Nat.le_refl _) o)
    obtain ⟨W4, HW4, b4, y4, hS4, r_h4⟩ : ∃ X, Hid ((W3.alloc (.cells #[.int .i64 h.n, .string h.r] 28)) = X) ∧ Below W3.heap.size W3 X ∧ W3.heap.size + 1 ≤ X.heap.size ∧ Hid (X.heap.size = W3.heap.size + 1) ∧ Hid (X.heap[W3.heap.size]? = some (.cells #[.int .i64 h.n, .string h.r] 28 (0, 0))) := ⟨_, rfl, ((Below.refl _ _).alloc (Nat.le_refl _) _), by simp, by show _ = _; simp, (by show _ = _; exact alloc_nth1_0 W3 _)⟩
    have B4 : Hid (Below w.heap.size w W4) := B3.out.trans (b4.mono B3.out.size)
    have r_made4 : Hid (W4.heap[w.heap.size]? = some (.cells #[.int .i64 (m : Int), .slice ao_v L_v cap_v] 92 (0, 0))) := rowKeep r_made3.out b4
    have o_v4 : Hid (Own W4 (W1.heap.size) (W2.heap.size) 9 (.slice ao_v L_v cap_v) (ss (Ed.edge (T.take m)))) := Own.later o_v3.out b4 (by omega)
    have c_made4_0 : W4.cell? ⟨w.heap.size, 0, none⟩ = some (.int .i64 (m : Int)) := row_at r_made4.out 0
    clear r_made3 c_made3_0 o_v3 o_t3
    have hmT : (m : Int) ≤ (T.length : Int) := by omega
    obtain rfl : m = 0 := by omega
    rcases ao1 with _ | ad
    ·
     obtain rfl := hn1 rfl
     cases ok
     ·
      have HO : Hid (R = false) := by show _ = _; rw [← HF.out.2]; exact fin_no hlt HF.out.1 (by rw [HGC.out])
      go_wp2
      go_ret
      exact ⟨by rw [HO.out]; rfl, (by rw [HW4.out]; exact B4.out)⟩
     ·
      obtain ⟨q, rfl, hq1, hq2, hx1, _⟩ := getC_some HBY.out HGC.out
      have hgt : T.length - 0 < x.length := by omega
      have HO : Hid (R = false) := by show _ = _; rw [← HF.out.2]; exact fin_far hlt HF.out.1 (by rw [HGC.out]; exact far_len hm hgt)
      go_wp2
      go_ret
      exact ⟨by rw [HO.out]; rfl, (by rw [HW4.out]; exact B4.out)⟩
    ·
     by_cases hcm : cap1 = 0
     ·
      subst hcm
      cases ok
      ·
       have HO : Hid (R = false) := by show _ = _; rw [← HF.out.2]; exact fin_no hlt HF.out.1 (by rw [HGC.out])
       go_wp2
       go_ret
       exact ⟨by rw [HO.out]; rfl, (by rw [HW4.out]; exact B4.out)⟩
      ·
       obtain ⟨q, rfl, hq1, hq2, hx1, _⟩ := getC_some HBY.out HGC.out
       have hgt : T.length - 0 < x.length := by omega
       have HO : Hid (R = false) := by show _ = _; rw [← HF.out.2]; exact fin_far hlt HF.out.1 (by rw [HGC.out]; exact far_len hm hgt)
       go_wp2
       go_ret
       exact ⟨by rw [HO.out]; rfl, (by rw [HW4.out]; exact B4.out)⟩
     ·
      cases ok
      ·
       have HO : Hid (R = false) := by show _ = _; rw [← HF.out.2]; exact fin_no hlt HF.out.1 (by rw [HGC.out])
       go_wp2
       go_ret
       exact ⟨by rw [HO.out]; rfl, (by rw [HW4.out]; exact B4.out)⟩
      ·
       obtain ⟨q, rfl, hq1, hq2, hx1, _⟩ := getC_some HBY.out HGC.out
       have hgt : T.length - 0 < x.length := by omega
       have HO : Hid (R = false) := by show _ = _; rw [← HF.out.2]; exact fin_far hlt HF.out.1 (by rw [HGC.out]; exact far_len hm hgt)
       go_wp2
       go_ret
       exact ⟨by rw [HO.out]; rfl, (by rw [HW4.out]; exact B4.out)⟩
   ·
    have hlt2 : ¬ (a : Int) < (xs.length : Int) := by omega
    have HO : Hid (R = ((m : Int) == (T.length : Int))) := by
     show _ = _
     rw [← HF.out.2, fin_end hlt]
     by_cases h9 : m = T.length
     ·
      have h8 : T.take m = T := List.take_of_length_le (by omega)
      have h7 : (m : Int) = (T.length : Int) := by omega
      simp [h8, h7]
     ·
      have h8 : ¬ T.take m = T := fun e9 => by have := congrArg List.length e9; rw [List.length_take] at this; omega
      have h7 : ¬ (m : Int) = (T.length : Int) := by omega
      simp [h8, h7]
    go_wp2
    go_ret
    exact ⟨by rw [HO.out]; rfl, B2.out⟩
end Go.Proofs.YtfpaichdkddglaaGreatDoor.Sr
namespace Go.Proofs.YtfpaichdkddglaaGreatDoor.He
open Go.RowKit Go.Proofs.YtfpaichdkddglaaGreatDoor.Mem Go.Proofs.YtfpaichdkddglaaGreatDoor.Laws Go.Proofs.YtfpaichdkddglaaGreatDoor.Bytes Go.Proofs.YtfpaichdkddglaaGreatDoor.Sha Go.Proofs.YtfpaichdkddglaaGreatDoor.Tr
set_option linter.unusedVariables false
set_option linter.unusedSimpArgs false
set_option maxRecDepth 1000000 in
set_option maxHeartbeats 1000000 in
theorem headOf_impl (w : World) (v : Value) (l : List ByteArray) (hG : Glob w) (h : Sl w v (ss l)) (hl : l.length ≤ 1000000000000) (hz : ∀ s ∈ l, s.size ≤ 10000000000) :
  Calls Tryz.prog 8 #[v] w fun e w' => e = .returned (.agg #[.int .i64 (headOf l).n, .string (headOf l).r]) ∧ Below w.heap.size w w' := by
 have HR : Hid ((w.alloc (.cells #[.int .i64 0, .string ⟨#[]⟩] 28)).heap[w.heap.size]? = some (.cells (hc hd0) 28 (0, 0))) := heap_alloc_new w _
 have HB : Hid (Below w.heap.size w (w.alloc (.cells #[.int .i64 0, .string ⟨#[]⟩] 28))) := (Below.refl _ _).alloc (Nat.le_refl _) _
 by_cases h2 : l.length ≤ 200
 ·
  have q := root_impl (w.alloc (.cells #[.int .i64 0, .string ⟨#[]⟩] 28)) v l (hG.later HB.out) (h.later HB.out) (by omega) hz
  rw [show rootOf l = root l from if_pos h2] at q
  obtain ⟨M, hM⟩ : ∃ M, headOf l = M := ⟨_, rfl⟩
  have hM2 : M = ⟨l.length, root l⟩ := by rw [← hM]; unfold headOf; rw [if_pos h2]
  obtain ⟨ao, cap, rfl, hcap, _⟩ := h
  have d2 : ¬ (200 : Int) < (l.length : Int) := by omega
  obtain ⟨x, hx⟩ : ∃ x, root l = x := ⟨_, rfl⟩
  rw [hx] at q hM2
  rw [hM, hM2]
  rw [ss_len] at *
  clear hx hM hM2 hz
  go_enter Tryz.func8, Tryz.ntmps8
  go_wp2_with fail
  refine q.mono ?_
  rintro e w1 ⟨rfl, b1⟩
  have R1 := rowKeep HR.out b1
  have B1 : Below w.heap.size w w1 := HB.out.trans (b1.mono HB.out.size)
  clear q HR b1
  go_wp2_with (refine wpList_store_row rfl 28 _ _ rfl w.heap.size (hc (⟨(l.length : Int), x⟩ : Hd)) rfl rfl 28 _ R1 (sizeH (⟨(l.length : Int), x⟩ : Hd)) rfl (oneH (⟨(l.length : Int), x⟩ : Hd)) ?_)
  exact bodyPost_ret (v := .agg (hc ⟨(l.length : Int), x⟩)) (results_cell_row rfl _ _ w.heap.size 28 _ (0, 0) _ rfl (setRow_heap _ _ _ _ _ (0, 0) R1) Tryz.underlying28 rfl (sizeH _)) rfl ⟨rfl, below_setRow B1 (Nat.le_refl _) _⟩
 ·
  have d2 : (200 : Int) < (l.length : Int) := by omega
  have hM : headOf l = hd0 := by unfold headOf; rw [if_neg h2]
  rw [hM]
  obtain ⟨ao, cap, rfl, hcap, _⟩ := h
  rw [ss_len]
  clear hz hM
  go_enter Tryz.func8, Tryz.ntmps8
  go_wp2_with (refine wpList_store_row rfl 28 _ _ rfl w.heap.size (hc hd0) rfl rfl 28 _ HR.out (sizeH hd0) rfl (oneH hd0) ?_)
  exact bodyPost_ret (v := .agg (hc hd0)) (results_cell_row rfl _ _ w.heap.size 28 _ (0, 0) _ rfl (setRow_heap _ _ _ _ _ (0, 0) HR.out) Tryz.underlying28 rfl (sizeH hd0)) rfl ⟨rfl, below_setRow HB.out (Nat.le_refl _) _⟩
end Go.Proofs.YtfpaichdkddglaaGreatDoor.He
namespace Go.Proofs.YtfpaichdkddglaaGreatDoor.Lg
open Go.RowKit Go.Proofs.YtfpaichdkddglaaGreatDoor.Mem Go.Proofs.YtfpaichdkddglaaGreatDoor.Laws Go.Proofs.YtfpaichdkddglaaGreatDoor.Bytes Go.Proofs.YtfpaichdkddglaaGreatDoor.Sha Go.Proofs.YtfpaichdkddglaaGreatDoor.Tr Go.Proofs.YtfpaichdkddglaaGreatDoor.He
set_option linter.unusedVariables false
set_option linter.unusedSimpArgs false
theorem Own.none9 (w : World) (lo hi : Nat) : Own w lo hi 9 (.slice none 0 0) (ss []) := ⟨⟨rfl, Or.inl ⟨rfl, rfl⟩⟩, fun g hg => by simp [Value.ownBlock] at hg⟩
set_option maxRecDepth 1000000 in
set_option maxHeartbeats 2000000 in
theorem logok_impl (w : World) (v : Value) (l : List ByteArray) (h : Hd) (hG : Glob w) (hs : Sl w v (ss l)) (hl : l.length ≤ 1000000000000) (hz : ∀ s ∈ l, s.size ≤ 10000000000) :
  Calls Tryz.prog 13 #[.agg #[v, .int .i64 h.n, .string h.r]] w fun e w' => e = .returned (.bool (logOk l h)) ∧ Below w.heap.size w w' := by
 have hs0 := hs
 obtain ⟨ao, cap, rfl, hcap⟩ := hs.form
 rw [ss_len] at *
 obtain ⟨W, hW, r0, HB⟩ : ∃ W, Hid (w.alloc (.cells #[.slice ao l.length cap, .int .i64 h.n, .string h.r] 31) = W) ∧ W.heap[w.heap.size]? = some (.cells (lc (.slice ao l.length cap) h) 31 (0, 0)) ∧ Hid (Below w.heap.size w W) := ⟨_, rfl, heap_alloc_new w _, (Below.refl _ _).alloc (Nat.le_refl _) _⟩
 have c0 : W.cell? ⟨w.heap.size, 0, none⟩ = some (.slice ao l.length cap) := row_at r0 0
 have c1 : W.cell? ⟨w.heap.size, 1, none⟩ = some (.int .i64 h.n) := row_at r0 1
 have c2 : W.cell? ⟨w.heap.size, 2, none⟩ = some (.string h.r) := row_at r0 2
 have q := headOf_impl W.drew _ l (hG.later (Below.drew HB.out)) (hs0.later (Below.drew HB.out)) hl hz
 have e1 : ∀ W', _ := fun W' => eqlH W' h (headOf l)
 have e2 : ∀ W' op x y xs ys, _ := fun W' op x y xs ys => grdH W' op x y xs ys
 have HN : Hid (logOk l h = (decide (l.length ≤ 200) && eqH h (headOf l))) := rfl
 obtain ⟨M, hM⟩ : ∃ M, headOf l = M := ⟨_, rfl⟩
 rw [hM] at q HN
 simp only [hM] at e1
 obtain ⟨B, hB⟩ : ∃ B, eqH h M = B := ⟨_, rfl⟩
 rw [hB] at HN
 simp only [hB] at e1
 obtain ⟨A, hA⟩ : ∃ A, logOk l h = A := ⟨_, rfl⟩
 rw [hA] at HN ⊢
 clear hM hB hA hs hs0 r0 hz hG
 by_cases h2 : l.length ≤ 200
 ·
  have d1 : decide ((l.length : Int) ≤ 200) = true := by simp; omega
  have HN2 : Hid (A = B) := by show _ = _; rw [HN.out]; simp [h2]
  clear HN
  go_enter Tryz.func13, Tryz.ntmps13
  go_wp2_with fail
  rw [hW.out]
  refine wp_region_held_drew (S := fun w' => w'.cell? ⟨w.heap.size, 0, none⟩ = some (.slice ao l.length cap) ∧ w'.cell? ⟨w.heap.size, 1, none⟩ = some (.int .i64 h.n) ∧ w'.cell? ⟨w.heap.size, 2, none⟩ = some (.string h.r)) (by kernel_rfl) ⟨c0, c1, c2⟩ (fun hHeld => ?_)
  (refine wpAnyH_take (i := 0) (v := ?v0x1) rfl (by kernel_rfl) (by kernel_rfl) (by kernel_rfl) (fun _ _ _ h => h) (Or.inl ⟨by rfl, ?hy0x1⟩) (by assumption) ?rest0x1; case hy0x1 => (intro w hSw; (try dsimp only at hSw); go_split_ands; go_simp; (try with_reducible rfl)))
  try simp only [Act.put, pu1, pu2, pu3, pu4, pu5, pu6]
  (refine wpAnyH_take (i := 1) (v := ?v1x2) rfl (by kernel_rfl) (by kernel_rfl) (by kernel_rfl) (fun _ _ _ h => h) (Or.inl ⟨by rfl, ?hy1x2⟩) (by assumption) ?rest1x2; case hy1x2 => (intro w hSw; (try dsimp only at hSw); go_split_ands; go_simp; (try with_reducible rfl)))
  try simp only [Act.put, pu1, pu2, pu3, pu4, pu5, pu6]
  (refine wpAnyH_take (i := 2) (v := ?v2x3) rfl (by kernel_rfl) (by kernel_rfl) (by kernel_rfl) (fun _ _ _ h => h) (Or.inl ⟨by rfl, ?hy2x3⟩) (by assumption) ?rest2x3; case hy2x3 => (intro w hSw; (try dsimp only at hSw); go_split_ands; go_simp; (try with_reducible rfl)))
  try simp only [Act.put, pu1, pu2, pu3, pu4, pu5, pu6]
  (refine wpAnyH_take (i := 3) (v := ?v3x4) rfl (by kernel_rfl) (by kernel_rfl) (by kernel_rfl) (fun _ _ _ h => h) (Or.inl ⟨by rfl, ?hy3x4⟩) (by assumption) ?rest3x4; case hy3x4 => (intro w hSw; (try dsimp only at hSw); go_split_ands; go_simp; (try with_reducible rfl)))
  try simp only [Act.put, pu1, pu2, pu3, pu4, pu5, pu6]
  (refine wpAnyH_take (i := 4) (v := ?v4x5) rfl (by kernel_rfl) (by kernel_rfl) (by kernel_rfl) (fun _ _ _ h => h) (Or.inl ⟨by rfl, ?hy4x5⟩) (by assumption) ?rest4x5; case hy4x5 => (intro w hSw; (try dsimp only at hSw); go_split_ands; go_simp; (try with_reducible rfl)))
  try simp only [Act.put, pu1, pu2, pu3, pu4, pu5, pu6]
  (refine wpAnyH_take (i := 5) (v := ?v5x6) rfl (by kernel_rfl) (by kernel_rfl) (by kernel_rfl) (fun _ _ _ h => h) (Or.inl ⟨by rfl, ?hy5x6⟩) (by assumption) ?rest5x6; case hy5x6 => (intro w hSw; (try dsimp only at hSw); go_split_ands; go_simp; (try with_reducible rfl)))
  try simp only [Act.put, pu1, pu2, pu3, pu4, pu5, pu6]
  (refine wpAnyH_take (i := 6) (v := ?v6x7) rfl (by kernel_rfl) (by kernel_rfl) (by kernel_rfl) (fun _ _ _ h => h) (Or.inl ⟨by rfl, ?hy6x7⟩) (by assumption) ?rest6x7; case hy6x7 => (intro w hSw; (try dsimp only at hSw); go_split_ands; go_simp; (try with_reducible rfl)))
  try simp only [Act.put, pu1, pu2, pu3, pu4, pu5, pu6]
  (refine wpAnyH_take (i := 7) (v := ?v7x8) rfl (by kernel_rfl) (by kernel_rfl) (by kernel_rfl) (fun _ _ _ h => h) (Or.inl ⟨by rfl, ?hy7x8⟩) (by assumption) ?rest7x8; case hy7x8 => (intro w hSw; (try dsimp only at hSw); go_split_ands; go_simp; (try with_reducible rfl)))
  try simp only [Act.put, pu1, pu2, pu3, pu4, pu5, pu6]
  (refine wpAnyH_take (i := 8) (v := ?v8x9) rfl (by kernel_rfl) (by kernel_rfl) (by kernel_rfl) (fun _ _ _ h => h) (Or.inl ⟨by rfl, ?hy8x9⟩) (by assumption) ?rest8x9; case hy8x9 => (intro w hSw; (try dsimp only at hSw); go_split_ands; go_simp; (try with_reducible rfl)))
  try simp only [Act.put, pu1, pu2, pu3, pu4, pu5, pu6]
  refine wpAnyH_ready (rs := [9]) (by kernel_rfl) (by simp) ?_
  refine AllReadyH.cons rfl (fun K hK => ?_) AllReadyH.nil
  go_simp
  refine (q).mono ?_
  rintro e w1 ⟨rfl, b1⟩
  refine hK.out _ _ ?_ (fun hHeld => ?_)
  ·
   exact ⟨keepR (W := W.drew) hHeld.1 b1, keepR (W := W.drew) hHeld.2.1 b1, keepR (W := W.drew) hHeld.2.2 b1⟩
  clear hK K
  try simp only [Act.put, pu1, pu2, pu3, pu4, pu5, pu6]
  (refine wpAnyH_take (i := 10) (v := ?v10x10) rfl (by kernel_rfl) (by kernel_rfl) (by kernel_rfl) (fun _ _ _ h => h) (Or.inl ⟨by rfl, ?hy10x10⟩) (by assumption) ?rest10x10; case hy10x10 => (intro w hSw; (try dsimp only at hSw); go_split_ands; go_simp; (try with_reducible rfl)))
  try simp only [Act.put, pu1, pu2, pu3, pu4, pu5, pu6]
  (refine wpAnyH_take (i := 11) (v := ?v11x11) rfl (by kernel_rfl) (by kernel_rfl) (by kernel_rfl) (fun _ _ _ h => h) (Or.inl ⟨by rfl, ?hy11x11⟩) (by assumption) ?rest11x11; case hy11x11 => (intro w hSw; (try dsimp only at hSw); go_split_ands; go_simp; (try with_reducible rfl)))
  try simp only [Act.put, pu1, pu2, pu3, pu4, pu5, pu6]
  (refine wpAnyH_take (i := 12) (v := ?v12x12) rfl (by kernel_rfl) (by kernel_rfl) (by kernel_rfl) (fun _ _ _ h => h) (Or.inl ⟨by rfl, ?hy12x12⟩) (by assumption) ?rest12x12; case hy12x12 => (intro w hSw; (try dsimp only at hSw); go_split_ands; go_simp; (try with_reducible rfl)))
  try simp only [Act.put, pu1, pu2, pu3, pu4, pu5, pu6]
  refine wpAnyH_done (by kernel_rfl) ?_ _
  clear hHeld
  go_wp2
  go_ret
  exact ⟨by rw [HN2.out]; rfl, (Below.drew HB.out).trans (b1.mono HB.out.size)⟩
 ·
  have d1 : decide ((l.length : Int) ≤ 200) = false := by simp; omega
  have HN2 : Hid (A = false) := by show _ = _; rw [HN.out]; simp [h2]
  clear HN q
  go_enter Tryz.func13, Tryz.ntmps13
  go_wp2_with fail
  rw [hW.out]
  refine wp_region_held_drew (S := fun w' => w'.cell? ⟨w.heap.size, 0, none⟩ = some (.slice ao l.length cap) ∧ w'.cell? ⟨w.heap.size, 1, none⟩ = some (.int .i64 h.n) ∧ w'.cell? ⟨w.heap.size, 2, none⟩ = some (.string h.r)) (by kernel_rfl) ⟨c0, c1, c2⟩ (fun hHeld => ?_)
  (refine wpAnyH_take (i := 0) (v := ?v0x13) rfl (by kernel_rfl) (by kernel_rfl) (by kernel_rfl) (fun _ _ _ h => h) (Or.inl ⟨by rfl, ?hy0x13⟩) (by assumption) ?rest0x13; case hy0x13 => (intro w hSw; (try dsimp only at hSw); go_split_ands; go_simp; (try with_reducible rfl)))
  try simp only [Act.put, pu1, pu2, pu3, pu4, pu5, pu6]
  (refine wpAnyH_take (i := 1) (v := ?v1x14) rfl (by kernel_rfl) (by kernel_rfl) (by kernel_rfl) (fun _ _ _ h => h) (Or.inl ⟨by rfl, ?hy1x14⟩) (by assumption) ?rest1x14; case hy1x14 => (intro w hSw; (try dsimp only at hSw); go_split_ands; go_simp; (try with_reducible rfl)))
  try simp only [Act.put, pu1, pu2, pu3, pu4, pu5, pu6]
  (refine wpAnyH_take (i := 2) (v := ?v2x15) rfl (by kernel_rfl) (by kernel_rfl) (by kernel_rfl) (fun _ _ _ h => h) (Or.inl ⟨by rfl, ?hy2x15⟩) (by assumption) ?rest2x15; case hy2x15 => (intro w hSw; (try dsimp only at hSw); go_split_ands; go_simp; (try with_reducible rfl)))
  try simp only [Act.put, pu1, pu2, pu3, pu4, pu5, pu6]
  (refine wpAnyH_take (i := 3) (v := ?v3x16) rfl (by kernel_rfl) (by kernel_rfl) (by kernel_rfl) (fun _ _ _ h => h) (Or.inl ⟨by rfl, ?hy3x16⟩) (by assumption) ?rest3x16; case hy3x16 => (intro w hSw; (try dsimp only at hSw); go_split_ands; go_simp; (try with_reducible rfl)))
  try simp only [Act.put, pu1, pu2, pu3, pu4, pu5, pu6]
  (refine wpAnyH_take (i := 4) (v := ?v4x17) rfl (by kernel_rfl) (by kernel_rfl) (by kernel_rfl) (fun _ _ _ h => h) (Or.inl ⟨by rfl, ?hy4x17⟩) (by assumption) ?rest4x17; case hy4x17 => (intro w hSw; (try dsimp only at hSw); go_split_ands; go_simp; (try with_reducible rfl)))
  try simp only [Act.put, pu1, pu2, pu3, pu4, pu5, pu6]
  (refine wpAnyH_take (i := 5) (v := undef) rfl (by kernel_rfl) (by kernel_rfl) (by kernel_rfl) (fun _ _ _ h => h) (Or.inr ⟨by rfl, rfl⟩) (by assumption) ?_)
  try simp only [Act.put, pu1, pu2, pu3, pu4, pu5, pu6]
  (refine wpAnyH_take (i := 6) (v := undef) rfl (by kernel_rfl) (by kernel_rfl) (by kernel_rfl) (fun _ _ _ h => h) (Or.inr ⟨by rfl, rfl⟩) (by assumption) ?_)
  try simp only [Act.put, pu1, pu2, pu3, pu4, pu5, pu6]
  (refine wpAnyH_take (i := 7) (v := undef) rfl (by kernel_rfl) (by kernel_rfl) (by kernel_rfl) (fun _ _ _ h => h) (Or.inr ⟨by rfl, rfl⟩) (by assumption) ?_)
  try simp only [Act.put, pu1, pu2, pu3, pu4, pu5, pu6]
  (refine wpAnyH_take (i := 8) (v := undef) rfl (by kernel_rfl) (by kernel_rfl) (by kernel_rfl) (fun _ _ _ h => h) (Or.inr ⟨by rfl, rfl⟩) (by assumption) ?_)
  try simp only [Act.put, pu1, pu2, pu3, pu4, pu5, pu6]
  (refine wpAnyH_take (i := 9) (v := undef) rfl (by kernel_rfl) (by kernel_rfl) (by kernel_rfl) (fun _ _ _ h => h) (Or.inr ⟨by rfl, rfl⟩) (by assumption) ?_)
  try simp only [Act.put, pu1, pu2, pu3, pu4, pu5, pu6]
  (refine wpAnyH_take (i := 10) (v := undef) rfl (by kernel_rfl) (by kernel_rfl) (by kernel_rfl) (fun _ _ _ h => h) (Or.inr ⟨by rfl, rfl⟩) (by assumption) ?_)
  try simp only [Act.put, pu1, pu2, pu3, pu4, pu5, pu6]
  (refine wpAnyH_take (i := 11) (v := ?v11x24) rfl (by kernel_rfl) (by kernel_rfl) (by kernel_rfl) (fun _ _ _ h => h) (Or.inl ⟨by rfl, ?hy11x24⟩) (by assumption) ?rest11x24; case hy11x24 => (intro w hSw; (try dsimp only at hSw); go_split_ands; go_simp; (try with_reducible rfl)))
  try simp only [Act.put, pu1, pu2, pu3, pu4, pu5, pu6]
  (refine wpAnyH_take (i := 12) (v := ?v12x25) rfl (by kernel_rfl) (by kernel_rfl) (by kernel_rfl) (fun _ _ _ h => h) (Or.inl ⟨by rfl, ?hy12x25⟩) (by assumption) ?rest12x25; case hy12x25 => (intro w hSw; (try dsimp only at hSw); go_split_ands; go_simp; (try with_reducible rfl)))
  try simp only [Act.put, pu1, pu2, pu3, pu4, pu5, pu6]
  refine wpAnyH_done (by kernel_rfl) ?_ _
  clear hHeld
  go_wp2
  go_ret
  exact ⟨by rw [HN2.out]; rfl, Below.drew HB.out⟩
set_option maxRecDepth 1000000 in
set_option maxHeartbeats 2000000 in
theorem logof_impl (w : World) (v : Value) (l : List ByteArray) (hG : Glob w) (hs : Sl w v (ss l)) (hl : l.length ≤ 1000000000000) (hz : ∀ s ∈ l, s.size ≤ 10000000000) :
  Calls Tryz.prog 31 #[v] w fun e w' => e = .returned (.agg #[v, .int .i64 (headOf l).n, .string (headOf l).r]) ∧ Below w.heap.size w w' := by
 have HS : Hid (Sl w v (ss l)) := hs
 have HG : Hid (Glob w) := hG
 obtain ⟨ao, cap, rfl, hcap⟩ := hs.form
 rw [ss_len] at *
 clear hs hG
 have B0 : Hid (Below w.heap.size w w) := Below.refl _ _
 obtain ⟨W1, HW1, b1, y1, hS1, r_res1⟩ : ∃ X, Hid ((w.alloc (.cells #[.slice none 0 0, .int .i64 0, .string ⟨#[]⟩] 31)) = X) ∧ Below w.heap.size w X ∧ w.heap.size + 1 ≤ X.heap.size ∧ Hid (X.heap.size = w.heap.size + 1) ∧ Hid (X.heap[w.heap.size]? = some (.cells #[.slice none 0 0, .int .i64 0, .string ⟨#[]⟩] 31 (0, 0))) := ⟨_, rfl, ((Below.refl _ _).alloc (Nat.le_refl _) _), by simp, by show _ = _; simp, (by show _ = _; exact alloc_nth1_0 w _)⟩
 have B1 : Hid (Below w.heap.size w W1) := B0.out.trans (b1.mono B0.out.size)
 have q : ∀ W v1, Glob W → Sl W v1 (ss l) → _ := fun W v1 h0 h1 => headOf_impl W v1 l h0 h1 hl hz
 obtain ⟨M, hM⟩ : ∃ M, headOf l = M := ⟨_, rfl⟩
 simp only [hM] at q
 rw [hM]
 clear hM hz
 go_enter Tryz.func31, Tryz.ntmps31
 go_wp2_with fail
 rw [HW1.out]
 refine (q W1 _ (HG.out.later B1.out) (HS.out.later B1.out)).mono ?_
 rintro e W2 ⟨rfl, b2⟩
 have B2 : Hid (Below w.heap.size w W2) := B1.out.trans (b2.mono B1.out.size)
 have r_res2 : Hid (W2.heap[w.heap.size]? = some (.cells #[.slice none 0 0, .int .i64 0, .string ⟨#[]⟩] 31 (0, 0))) := rowKeep r_res1.out b2
 clear r_res1
 go_wp2_with (refine wpList_store_row rfl 31 _ _ rfl (w.heap.size) (lc (.slice ao l.length cap) M) rfl rfl 31 _ r_res2.out (sizeL _ _) rfl (oneL _ rfl) ?_)
 refine bodyPost_ret (v := .agg (lc (.slice ao l.length cap) M)) (results_cell_row rfl _ _ (w.heap.size) 31 _ (0, 0) _ rfl (setRow_heap _ _ _ _ _ (0, 0) r_res2.out) Tryz.underlying31 rfl (sizeL _ _)) rfl ⟨rfl, below_setRow B2.out (by omega) _⟩
set_option maxRecDepth 1000000 in
set_option maxHeartbeats 2000000 in
theorem lognew_impl (w : World) (hG : Glob w) :
  Calls Tryz.prog 10 #[] w fun e w' => ∃ v', e = .returned (.agg #[v', .int .i64 (headOf []).n, .string (headOf []).r]) ∧ Own w' w.heap.size w'.heap.size 9 v' (ss []) ∧ Below w.heap.size w w' := by
 have HG : Hid (Glob w) := hG
 clear hG
 have B0 : Hid (Below w.heap.size w w) := Below.refl _ _
 obtain ⟨W1, HW1, b1, y1, hS1, r_res1⟩ : ∃ X, Hid ((w.alloc (.cells #[.slice none 0 0, .int .i64 0, .string ⟨#[]⟩] 31)) = X) ∧ Below w.heap.size w X ∧ w.heap.size + 1 ≤ X.heap.size ∧ Hid (X.heap.size = w.heap.size + 1) ∧ Hid (X.heap[w.heap.size]? = some (.cells #[.slice none 0 0, .int .i64 0, .string ⟨#[]⟩] 31 (0, 0))) := ⟨_, rfl, ((Below.refl _ _).alloc (Nat.le_refl _) _), by simp, by show _ = _; simp, (by show _ = _; exact alloc_nth1_0 w _)⟩
 have B1 : Hid (Below w.heap.size w W1) := B0.out.trans (b1.mono B0.out.size)
 have q : ∀ W, Glob W → _ := fun W h0 => logof_impl W (.slice none 0 0) [] h0 (Sl.nil W) (Nat.zero_le _) (fun s hs => by cases hs)
 obtain ⟨M, hM⟩ : ∃ M, headOf [] = M := ⟨_, rfl⟩
 simp only [hM] at q
 rw [hM]
 clear hM
 go_enter Tryz.func10, Tryz.ntmps10
 go_wp2_with fail
 rw [HW1.out]
 refine (q W1 (HG.out.later B1.out)).mono ?_
 rintro e W2 ⟨rfl, b2⟩
 have B2 : Hid (Below w.heap.size w W2) := B1.out.trans (b2.mono B1.out.size)
 have r_res2 : Hid (W2.heap[w.heap.size]? = some (.cells #[.slice none 0 0, .int .i64 0, .string ⟨#[]⟩] 31 (0, 0))) := rowKeep r_res1.out b2
 clear r_res1
 go_wp2_with (refine wpList_store_row rfl 31 _ _ rfl (w.heap.size) (lc (.slice none 0 0) M) rfl rfl 31 _ r_res2.out (sizeL _ _) rfl (oneL _ rfl) ?_)
 refine bodyPost_ret (v := .agg (lc (.slice none 0 0) M)) (results_cell_row rfl _ _ (w.heap.size) 31 _ (0, 0) _ rfl (setRow_heap _ _ _ _ _ (0, 0) r_res2.out) Tryz.underlying31 rfl (sizeL _ _)) rfl ⟨.slice none 0 0, rfl, Own.none9 _ _ _, below_setRow B2.out (by omega) _⟩
end Go.Proofs.YtfpaichdkddglaaGreatDoor.Lg
