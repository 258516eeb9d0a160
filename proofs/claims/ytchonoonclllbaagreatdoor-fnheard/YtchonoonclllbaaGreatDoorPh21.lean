/- Texts in one: SrB. -/
import Derived.Test.YtchonoonclllbaaGreatDoorPh13
set_option maxHeartbeats 16000000
set_option linter.unusedVariables false
set_option linter.unusedSimpArgs false
namespace Go.Proofs.YtchonoonclllbaaGreatDoor.Sr
open Go.RowKit Mem Laws Bytes Sha Tr He Lg
theorem res_r3 {P : Program} {fn : Func} {p q u v : Tmp} {ty : TypeId} (h : fn.results = #[.cell p ty, .tmp q, .tmp u, .tmp v]) (tmps : Array Value) (w : World) (g1 : Nat) (t : TypeId) (c1 : Array Value) (fr : Nat × Nat) (d : TypeDesc)
  (hp : tmps.getD p undef = .pointer (some ⟨g1, 0, none⟩)) (hg1 : w.heap[g1]? = some (.cells c1 t fr))
  (hu : P.underlying ty = some d) (hd : (match d with | .struct _ | .array _ _ => true | _ => false) = true) (hi1 : (P.info? ty).map (·.size) = some c1.size) :
  (results fn tmps).run P w = .ok (.tuple #[.agg c1, tmps.getD q undef, tmps.getD u undef, tmps.getD v undef]) w := by
 have hp' : tmps[p]?.getD undef = .pointer (some ⟨g1, 0, none⟩) := by simpa using hp
 simp [results, h, hp', asAddr, run_loadVar_row w g1 t ty c1 fr d hg1 hu hd hi1]
theorem slMidB {w : World} {b off L cap : Nat} {xs : List Int} (h : Sl w (.slice (some ⟨b, off, none⟩) L cap) (bs xs)) (q m : Nat) (hq : q + m < xs.length) : Sl w (.slice (some ⟨b, off + q, none⟩) m (cap - q)) (bs ((xs.drop q).take m)) := by
 have h1 := slBack h q (by rw [bs_len]; omega)
 have h2 := Sl.front h1 m (by rw [List.length_drop, bs_len]; omega)
 have e : bs ((xs.drop q).take m) = ((bs xs).drop q).take m := by unfold bs; rw [List.map_take, List.map_drop]
 rw [e]
 exact h2
theorem conv12 {w : World} {b off L cap : Nat} {xs : List Int} {k c : Nat} (h : Sl w (.slice (some ⟨b, off, none⟩) L cap) (bs xs)) (hb : Byt xs) (hk : k + 4 ≤ xs.length) :
  (convert 22 9 (.slice (some ⟨b, off + k, none⟩) 4 c)).run Tryz.prog w = .ok (.string (Plain.txt ((xs.drop k).take 4))) w := by
 refine GetT.conv_some hb ?_ hk
 intro j hj
 obtain ⟨ao, cap', he, _, _, hr⟩ := h
 simp only [Value.slice.injEq] at he
 obtain ⟨rfl, _, _⟩ := he
 have := hr (by rw [bs_len]; omega)
 obtain ⟨b', off', he', hc⟩ := this
 simp only [Option.some.injEq, Addr.mk.injEq, and_true] at he'
 obtain ⟨rfl, rfl⟩ := he'
 exact hc j (by rw [bs_len]; exact hj)
theorem sb_inj12 {a b : ByteArray} (h : sb a = sb b) : a = b := by
 have := congrArg Plain.txt h
 rwa [Plain.txt_sb, Plain.txt_sb] at this
theorem getNum_small (xs : List Int) (a : Int) : 0 ≤ (Plain.getNum xs a).2.1 ∧ (Plain.getNum xs a).2.1 ≤ xs.length := by
 obtain ⟨n, p, ok, hg⟩ : ∃ n p ok, Plain.getNum xs a = (n, p, ok) := ⟨_, _, _, rfl⟩
 rw [hg]
 cases ok
 ·unfold Plain.getNum at hg
  split at hg
  ·split at hg
   ·simp at hg
   ·simp only [Prod.mk.injEq] at hg
    simp only
    omega
  ·simp only [Prod.mk.injEq] at hg
   simp only
   omega
 ·have := Plain.getNum_bd hg
  simp only
  omega
theorem getText_small (xs : List Int) (a : Int) : 0 ≤ (Plain.getText xs a).2.1 ∧ (Plain.getText xs a).2.1 ≤ xs.length ∧ (Plain.getText xs a).1.size ≤ xs.length := by
 obtain ⟨s, p, ok, hg⟩ : ∃ n p ok, Plain.getText xs a = (n, p, ok) := ⟨_, _, _, rfl⟩
 rw [hg]
 cases ok
 ·unfold Plain.getText at hg
  split at hg
  ·simp at hg
  ·simp only [Prod.mk.injEq] at hg
   obtain ⟨rfl, rfl, _⟩ := hg
   exact ⟨Int.le_refl _, Int.natCast_nonneg _, Nat.zero_le _⟩
 ·have := Plain.getText_bd hg
  simp only
  omega
def GotC (xs : List Int) (a : Int) (w : World) (e : Ending) (w' : World) : Prop :=
 ∃ v', e = .returned (.tuple #[.agg #[.int .i64 (getC xs a).1.n, .string (getC xs a).1.r], v', .int .i64 (getC xs a).2.2.1, .bool (getC xs a).2.2.2]) ∧ Own w' w.heap.size w'.heap.size 9 v' (ss (getC xs a).2.1) ∧ Below w.heap.size w w'
set_option maxRecDepth 1000000 in
theorem get_spec (w : World) (v : Value) (xs : List Int) (a : Int) (hs : Sl w v (bs xs)) (hb : Byt xs) (hx : xs.length ≤ 1000000000000) (hlo : -9223372036854775808 ≤ a) (hhi : a ≤ 9223372036854775807) :
  Calls Tryz.prog 139 #[v, .int .i64 a] w fun e w' => GotC xs a w e w' := by
 have HS : Hid (Sl w v (bs xs)) := hs
 have HBY : Hid (Byt xs) := hb
 obtain ⟨ao0, cap0, rfl, hc0⟩ := hs.form
 rw [bs_len] at *
 clear hs hb
 have B0 : Hid (Below w.heap.size w w) := Below.refl _ _
 obtain ⟨i9, hi9, hz9a, hz9b, hz9c⟩ := info_parts info9t
 obtain ⟨W1, HW1, b1, y1, hS1, r_res1⟩ := Ke.l1 w #[.int .i64 0, .string ⟨#[]⟩] 26
 have z1 := b1.size
 have B1 := Ke.b B0 b1
 have q1 := Gets.get_spec W1 _ xs a (HS.out.later B1.out) HBY.out (by omega) hlo hhi
 obtain ⟨n, p, ok, hg⟩ : ∃ n p ok, Plain.getNum xs a = (n, p, ok) := ⟨_, _, _, rfl⟩
 rw [hg] at q1
 have HG : Hid (Plain.getNum xs a = (n, p, ok)) := hg
 simp only at q1
 clear hg
 obtain ⟨G, hG⟩ : ∃ G, getC xs a = G := ⟨_, rfl⟩
 have HGG : Hid (getC xs a = G) := hG
 unfold GotC
 rw [hG]
 clear hG
 go_enter Tryz.func139, Tryz.ntmps139
 go_wp2_with fail
 rw [HW1.out]
 refine (q1).mono ?_
 rintro e W_ ⟨rfl, hW_⟩
 have hW_ := hW_.symm
 subst hW_
 clear q1
 cases ok
 ·have HN : Hid (G = no12 a) := by show _ = _; rw [← HGG.out]; unfold getC; rw [HG.out, if_neg (by simp)]
  obtain ⟨W2, HW2, b2, o_z2⟩ : ∃ X, Hid ((W1.alloc (.cells #[] 9)) = X) ∧ Below W1.heap.size W1 X ∧ Hid (Own X W1.heap.size X.heap.size 9 (.slice (some ⟨W1.heap.size, 0, none⟩) 0 0) (ss [])) := ⟨_, rfl, (Below.refl _ _).alloc (Nat.le_refl _) _, emptyT W1 W1.heap.size (Nat.le_refl _)⟩
  have z2 := b2.size
  have B2 := Ke.b B1 b2
  have r_res2 := Ke.r r_res1 b2
  clear r_res1
  go_wp2_with ((try rw [HW2.out]); refine wpList_store_row rfl 26 _ _ rfl (w.heap.size) (hc hd0) rfl rfl 26 _ r_res2.out (sizeH _) rfl (oneH _) ?_)
  refine bodyPost_ret (res_r3 rfl _ _ (w.heap.size) 26 (hc hd0) (0, 0) _ rfl (setRow_heap _ _ _ _ _ (0, 0) r_res2.out) Tryz.underlying26 rfl (sizeH _)) rfl ⟨.slice (some ⟨W1.heap.size, 0, none⟩) 0 0, by rw [HN.out]; rfl, ?_, below_setRow B2.out (by omega) _⟩
  rw [HN.out]
  exact (Own.setRow o_z2.out _ (by omega)).mono (by omega) (by rw [size_setRow]; omega)
 ·obtain ⟨g0, g1, g2, g3, g4, g5⟩ := Plain.getNum_bd HG.out
  obtain ⟨m, rfl⟩ : ∃ m : Nat, n = (m : Int) := ⟨n.toNat, by omega⟩
  obtain ⟨q, rfl⟩ : ∃ q : Nat, p = (q : Int) := ⟨p.toNat, by omega⟩
  by_cases hcc : (m : Int) ≤ (xs.length : Int) - (q : Int) - 4
  ·obtain ⟨b, off, cap, he, hcap⟩ := slForm HS.out (by rw [bs_len]; omega)
   simp only [Value.slice.injEq] at he
   obtain ⟨rfl, -, rfl⟩ := he
   rw [bs_len] at hcap
   have hcq : ¬ cap0 = q := by omega
   obtain ⟨Y, hY⟩ : ∃ Y, (xs.drop q).take m = Y := ⟨_, rfl⟩
   have hYl : Y.length ≤ m ∧ m ≤ Y.length := by rw [← hY, List.length_take, List.length_drop]; omega
   have HYB : Hid (Byt Y) := by show Byt Y; rw [← hY]; exact fun y hy => HBY.out y (List.mem_of_mem_drop (List.mem_of_mem_take hy))
   have f_Y1 : Hid (Sl W1 (.slice (some ⟨b, off + q, none⟩) m (cap0 - q)) (bs Y)) := by show Sl _ _ _; rw [← hY]; exact slMidB (HS.out.later B1.out) q m (by omega)
   have HYY : Hid ((xs.drop q).take m = Y) := hY
   clear hY
   obtain ⟨K, hK⟩ : ∃ K, q + m = K := ⟨_, rfl⟩
   obtain ⟨J, hJ⟩ : ∃ J, K + 4 = J := ⟨_, rfl⟩
   have HKJ : Hid (q + m = K ∧ K + 4 = J) := ⟨hK, hJ⟩
   have iK : (K : Int) = (q : Int) + (m : Int) ∧ (J : Int) = (K : Int) + 4 := by omega
   have HIK : Hid ((K : Int) = (q : Int) + (m : Int) ∧ (J : Int) = (K : Int) + 4) := iK
   clear hK hJ iK
   obtain ⟨T, hT⟩ : ∃ T, Plain.txt ((xs.drop K).take 4) = T := ⟨_, rfl⟩
   have cv : ∀ W, Below w.heap.size w W → (convert 22 9 (.slice (some ⟨b, off + K, none⟩) 4 (cap0 - K))).run Tryz.prog W = .ok (.string T) W := fun W hW => by rw [← hT]; exact conv12 (HS.out.later hW) HBY.out (by have := HKJ.out; omega)
   have HTT : Hid (Plain.txt ((xs.drop K).take 4) = T) := hT
   have HCV : Hid (∀ W, Below w.heap.size w W → (convert 22 9 (.slice (some ⟨b, off + K, none⟩) 4 (cap0 - K))).run Tryz.prog W = .ok (.string T) W) := cv
   clear hT cv
   have q2 : ∀ v1, Sl W1 v1 (bs Y) → _ := fun v1 h1 => Gets.get_spec W1 v1 Y 0 h1 HYB.out (by omega) (by omega) (by omega)
   obtain ⟨n2, p2, ok2, hg2⟩ : ∃ n p ok, Plain.getNum Y 0 = (n, p, ok) := ⟨_, _, _, rfl⟩
   simp only [hg2] at q2
   have HG2 : Hid (Plain.getNum Y 0 = (n2, p2, ok2)) := hg2
   have sm2 := getNum_small Y 0
   rw [hg2] at sm2
   simp only at sm2
   clear hg2
   have q3 : ∀ v1, Sl W1 v1 (bs Y) → _ := fun v1 h1 => GetT.text_spec W1 v1 Y p2 h1 HYB.out (by omega) (by omega) (by omega)
   obtain ⟨s3, p3, ok3, hg3⟩ : ∃ n p ok, Plain.getText Y p2 = (n, p, ok) := ⟨_, _, _, rfl⟩
   simp only [hg3] at q3
   have HG3 : Hid (Plain.getText Y p2 = (s3, p3, ok3)) := hg3
   have sm3 := getText_small Y p2
   rw [hg3] at sm3
   simp only at sm3
   clear hg3
   have q4 : ∀ v1, Sl W1 v1 (bs Y) → _ := fun v1 h1 => GetTs.texts_spec W1 v1 Y p3 h1 HYB.out (by omega) (by omega) (by omega)
   obtain ⟨l4, p4, ok4, hg4⟩ : ∃ n p ok, Plain.getTexts Y p3 = (n, p, ok) := ⟨_, _, _, rfl⟩
   unfold GetTs.Done at q4
   simp only [hg4] at q4
   have HG4 : Hid (Plain.getTexts Y p3 = (l4, p4, ok4)) := hg4
   have sm4 := Plain.getTexts_len Y p3
   rw [hg4] at sm4
   simp only at sm4
   clear hg4
   go_wp2_with fail
   refine (q2 _ f_Y1.out).mono ?_
   rintro e W_ ⟨rfl, hW_⟩
   have hW_ := hW_.symm
   subst hW_
   go_wp2_with fail
   refine (q3 _ f_Y1.out).mono ?_
   rintro e W_ ⟨rfl, hW_⟩
   have hW_ := hW_.symm
   subst hW_
   go_wp2_with fail
   refine (q4 _ f_Y1.out).mono ?_
   rintro e W2 ⟨v_t, rfl, o_t2, b2⟩
   obtain ⟨ao_t, L_t, cap_t, rfl, hL_t, hM_t⟩ := o_t2.form
   have o_t2 : Hid (Own W2 W1.heap.size W2.heap.size 9 (.slice ao_t L_t cap_t) (ss l4)) := o_t2
   clear hL_t hM_t
   have z2 := b2.size
   have B2 := Ke.b B1 b2
   have r_res2 := Ke.r r_res1 b2
   clear r_res1
   have f_Y2 := Ke.h (Sl.later f_Y1.out b2)
   clear f_Y1
   clear q2 q3 q4
   have hLt : L_t ≤ l4.length ∧ l4.length ≤ L_t := by obtain ⟨a9, L9, c9, he, h1, h2⟩ := Mem.Own.form o_t2.out; injection he with _ he2 _; rw [ss_len] at h1 h2; omega
   obtain ⟨W3, HW3, b3, y3, hS3, r_h3⟩ := Ke.l1 W2 #[.int .i64 n2, .string s3] 26
   have z3 := b3.size
   have B3 := Ke.b B2 b3
   have r_res3 := Ke.r r_res2 b3
   have o_t3 := Ke.o o_t2 b3
   have c_h3 := Ke.c r_h3
   clear r_res2 o_t2
   have f_Y3 := Ke.h (Sl.later f_Y2.out b3)
   clear f_Y2
   obtain ⟨d1, d2, d3⟩ := dig4 Y
   have qd : ∀ W v1, Sl W v1 (bs Y) → _ := fun W v1 h1 => digest_spec W v1 Y h1 HYB.out (by omega)
   obtain ⟨D, hD⟩ : ∃ D, Plain.txt (digest Y) = D := ⟨_, rfl⟩
   rw [hD] at d1 d2 d3
   simp only [hD] at qd
   have dd : ¬ ((D.size : Int) < 4) := by omega
   have dn : 4 ≤ D.size := by omega
   obtain ⟨D4, hD4⟩ : ∃ T, D.extract 0 4 = T := ⟨_, rfl⟩
   rw [hD4] at d2 d3
   have HD4 : Hid (sb D4 = sum4 Y) := d3
   clear d1 d2 d3 hD
   have qh : ∀ W, _ := fun W => ok_spec W (⟨n2, s3⟩ : Hd)
   simp only at qh
   have HIF : Hid (¬ (ok2 = true ∧ ok3 = true ∧ ok4 = true ∧ p4 = (Y.length : Int) ∧ okH ⟨n2, s3⟩ = true ∧ ¬ l4.length = 0) → getC xs a = no12 a) := by
    intro hnot
    unfold getC
    rw [HG.out, if_pos ⟨rfl, hcc⟩]
    simp only [Int.toNat_natCast]
    rw [HYY.out]
    have hno : inBody Y = none := by
     unfold inBody
     rw [HG2.out]
     simp only
     rw [HG3.out]
     simp only
     rw [HG4.out]
     exact if_neg hnot
    rw [hno]
   have HIY : Hid (ok2 = true → ok3 = true → ok4 = true → p4 = (Y.length : Int) → okH ⟨n2, s3⟩ = true → ¬ l4.length = 0 → getC xs a = if T = D4 then (⟨n2, s3⟩, l4, (J : Int), true) else no12 a) := by
    intro h1 h2 h3 h4 h5 h6
    unfold getC
    rw [HG.out, if_pos ⟨rfl, hcc⟩]
    simp only [Int.toNat_natCast]
    rw [HYY.out]
    have hyes : inBody Y = some (⟨n2, s3⟩, l4) := by
     unfold inBody
     rw [HG2.out]
     simp only
     rw [HG3.out]
     simp only
     rw [HG4.out]
     exact if_pos ⟨h1, h2, h3, h4, h5, h6⟩
    rw [hyes]
    simp only
    have e4 : (xs.drop (q + m)).take 4 = sb T := by rw [HKJ.out.1]; rw [← HTT.out, sb_txt (fun y hy => HBY.out y (List.mem_of_mem_drop (List.mem_of_mem_take hy)))]
    by_cases hTD : T = D4
    ·rw [if_pos hTD, if_pos (by rw [e4, hTD, HD4.out])]
     simp only [Prod.mk.injEq, true_and, and_true]
     have := HIK.out
     omega
    ·rw [if_neg hTD, if_neg]
     intro he
     rw [e4, ← HD4.out] at he
     exact hTD (sb_inj12 he)
   obtain ⟨E, hE⟩ : ∃ E, okH ⟨n2, s3⟩ = E := ⟨_, rfl⟩
   simp only [hE] at qh
   have HE : Hid (okH ⟨n2, s3⟩ = E) := hE
   clear hE
   go_wp2_with fail
   rw [HW3.out]
   have wr1 : IntKind.i64.wrap ((q : Int) + (m : Int)) = (K : Int) := by have := HIK.out; rw [IntKind.wrap_i64]; omega
   have wr2 : IntKind.i64.wrap ((K : Int) + 4) = (J : Int) := by have := HIK.out; rw [IntKind.wrap_i64]; omega
   have wr3 : (J : Int) ≤ (cap0 : Int) := by have := HIK.out; omega
   have wr4 : (K : Int) ≤ max (J : Int) 0 := by have := HIK.out; omega
   have wr5 : ¬ cap0 = K := by have := HKJ.out; omega
   have wr6 : J - K = 4 := by have := HKJ.out; omega
   have wr7 : (K : Int) ≤ (J : Int) := by have := HIK.out; omega
   cases ok2
   ·refine wp_region_held_drew (S := fun w' => w'.cell? ⟨W2.heap.size, 0, none⟩ = some (.int .i64 n2) ∧ w'.cell? ⟨W2.heap.size, 1, none⟩ = some (.string s3) ∧ (convert 22 9 (.slice (some ⟨b, off + K, none⟩) 4 (cap0 - K))).run Tryz.prog w' = .ok (.string T) w') (by kernel_rfl) ⟨(c_h3 0), (c_h3 1), HCV.out _ (Below.drew B3.out)⟩ (fun hHeld => ?_)
    refine Ke.q 0 ?_; try simp only [Act.put, pq]
    refine Ke.q 1 ?_; try simp only [Act.put, pq]
    refine Ke.q 2 ?_; try simp only [Act.put, pq]
    refine Ke.p 3 ?_; try simp only [Act.put, pq]
    refine Ke.p 4 ?_; try simp only [Act.put, pq]
    refine Ke.q 5 ?_; try simp only [Act.put, pq]
    refine Ke.q 6 ?_; try simp only [Act.put, pq]
    refine Ke.p 7 ?_; try simp only [Act.put, pq]
    refine Ke.p 8 ?_; try simp only [Act.put, pq]
    refine Ke.q 9 ?_; try simp only [Act.put, pq]
    refine Ke.q 10 ?_; try simp only [Act.put, pq]
    refine Ke.p 11 ?_; try simp only [Act.put, pq]
    refine Ke.p 12 ?_; try simp only [Act.put, pq]
    refine Ke.p 13 ?_; try simp only [Act.put, pq]
    refine Ke.p 14 ?_; try simp only [Act.put, pq]
    refine Ke.q 15 ?_; try simp only [Act.put, pq]
    refine Ke.q 16 ?_; try simp only [Act.put, pq]
    refine Ke.p 17 ?_; try simp only [Act.put, pq]
    refine Ke.p 18 ?_; try simp only [Act.put, pq]
    refine Ke.p 19 ?_; try simp only [Act.put, pq]
    refine Ke.q 20 ?_; try simp only [Act.put, pq]
    refine Ke.q 21 ?_; try simp only [Act.put, pq]
    refine Ke.p 22 ?_; try simp only [Act.put, pq]
    refine Ke.p 23 ?_; try simp only [Act.put, pq]
    refine Ke.p 24 ?_; try simp only [Act.put, pq]
    refine Ke.q 25 ?_; try simp only [Act.put, pq]
    refine Ke.q 26 ?_; try simp only [Act.put, pq]
    refine Ke.p 27 ?_; try simp only [Act.put, pq]
    refine Ke.p 28 ?_; try simp only [Act.put, pq]
    refine Ke.p 29 ?_; try simp only [Act.put, pq]
    refine Ke.p 30 ?_; try simp only [Act.put, pq]
    refine Ke.p 31 ?_; try simp only [Act.put, pq]
    refine Ke.p 32 ?_; try simp only [Act.put, pq]
    refine Ke.p 33 ?_; try simp only [Act.put, pq]
    refine Ke.p 34 ?_; try simp only [Act.put, pq]
    refine Ke.p 35 ?_; try simp only [Act.put, pq]
    refine Ke.p 36 ?_; try simp only [Act.put, pq]
    refine Ke.p 37 ?_; try simp only [Act.put, pq]
    refine Ke.p 38 ?_; try simp only [Act.put, pq]
    refine Ke.p 39 ?_; try simp only [Act.put, pq]
    refine Ke.p 40 ?_; try simp only [Act.put, pq]
    refine Ke.q 41 ?_; try simp only [Act.put, pq]
    refine wpAnyH_done (by kernel_rfl) ?_ _
    clear hHeld
    obtain ⟨W4, HW4, b4⟩ := Ke.v W3
    rw [HW4.out]
    have z4 := b4.size
    have B4 := Ke.b B3 b4
    have r_res4 := Ke.r r_res3 b4
    have r_h4 := Ke.r r_h3 b4
    have o_t4 := Ke.o o_t3 b4
    clear r_res3 r_h3 c_h3 o_t3
    have f_Y4 := Ke.h (Sl.later f_Y3.out b4)
    clear f_Y3
    clear r_h4
    have HN : Hid (G = no12 a) := by show _ = _; rw [← HGG.out]; exact HIF.out (by rintro ⟨h1, h2, h3, h4, h5, h6⟩; simp at h1)
    obtain ⟨W5, HW5, b5, o_z5⟩ : ∃ X, Hid ((W4.alloc (.cells #[] 9)) = X) ∧ Below W4.heap.size W4 X ∧ Hid (Own X W4.heap.size X.heap.size 9 (.slice (some ⟨W4.heap.size, 0, none⟩) 0 0) (ss [])) := ⟨_, rfl, (Below.refl _ _).alloc (Nat.le_refl _) _, emptyT W4 W4.heap.size (Nat.le_refl _)⟩
    have z5 := b5.size
    have B5 := Ke.b B4 b5
    have r_res5 := Ke.r r_res4 b5
    have o_t5 := Ke.o o_t4 b5
    clear r_res4 o_t4
    clear f_Y4
    go_wp2_with ((try rw [HW5.out]); refine wpList_store_row rfl 26 _ _ rfl (w.heap.size) (hc hd0) rfl rfl 26 _ r_res5.out (sizeH _) rfl (oneH _) ?_)
    refine bodyPost_ret (res_r3 rfl _ _ (w.heap.size) 26 (hc hd0) (0, 0) _ rfl (setRow_heap _ _ _ _ _ (0, 0) r_res5.out) Tryz.underlying26 rfl (sizeH _)) rfl ⟨.slice (some ⟨W4.heap.size, 0, none⟩) 0 0, by rw [HN.out]; rfl, ?_, below_setRow B5.out (by omega) _⟩
    rw [HN.out]
    exact (Own.setRow o_z5.out _ (by omega)).mono (by omega) (by rw [size_setRow]; omega)
   ·cases ok3
    ·refine wp_region_held_drew (S := fun w' => w'.cell? ⟨W2.heap.size, 0, none⟩ = some (.int .i64 n2) ∧ w'.cell? ⟨W2.heap.size, 1, none⟩ = some (.string s3) ∧ (convert 22 9 (.slice (some ⟨b, off + K, none⟩) 4 (cap0 - K))).run Tryz.prog w' = .ok (.string T) w') (by kernel_rfl) ⟨(c_h3 0), (c_h3 1), HCV.out _ (Below.drew B3.out)⟩ (fun hHeld => ?_)
     refine Ke.q 0 ?_; try simp only [Act.put, pq]
     refine Ke.q 1 ?_; try simp only [Act.put, pq]
     refine Ke.q 2 ?_; try simp only [Act.put, pq]
     refine Ke.q 3 ?_; try simp only [Act.put, pq]
     refine Ke.q 4 ?_; try simp only [Act.put, pq]
     refine Ke.q 5 ?_; try simp only [Act.put, pq]
     refine Ke.q 6 ?_; try simp only [Act.put, pq]
     refine Ke.p 7 ?_; try simp only [Act.put, pq]
     refine Ke.p 8 ?_; try simp only [Act.put, pq]
     refine Ke.q 9 ?_; try simp only [Act.put, pq]
     refine Ke.q 10 ?_; try simp only [Act.put, pq]
     refine Ke.p 11 ?_; try simp only [Act.put, pq]
     refine Ke.p 12 ?_; try simp only [Act.put, pq]
     refine Ke.p 13 ?_; try simp only [Act.put, pq]
     refine Ke.p 14 ?_; try simp only [Act.put, pq]
     refine Ke.q 15 ?_; try simp only [Act.put, pq]
     refine Ke.q 16 ?_; try simp only [Act.put, pq]
     refine Ke.p 17 ?_; try simp only [Act.put, pq]
     refine Ke.p 18 ?_; try simp only [Act.put, pq]
     refine Ke.p 19 ?_; try simp only [Act.put, pq]
     refine Ke.q 20 ?_; try simp only [Act.put, pq]
     refine Ke.q 21 ?_; try simp only [Act.put, pq]
     refine Ke.p 22 ?_; try simp only [Act.put, pq]
     refine Ke.p 23 ?_; try simp only [Act.put, pq]
     refine Ke.p 24 ?_; try simp only [Act.put, pq]
     refine Ke.q 25 ?_; try simp only [Act.put, pq]
     refine Ke.q 26 ?_; try simp only [Act.put, pq]
     refine Ke.p 27 ?_; try simp only [Act.put, pq]
     refine Ke.p 28 ?_; try simp only [Act.put, pq]
     refine Ke.p 29 ?_; try simp only [Act.put, pq]
     refine Ke.p 30 ?_; try simp only [Act.put, pq]
     refine Ke.p 31 ?_; try simp only [Act.put, pq]
     refine Ke.p 32 ?_; try simp only [Act.put, pq]
     refine Ke.p 33 ?_; try simp only [Act.put, pq]
     refine Ke.p 34 ?_; try simp only [Act.put, pq]
     refine Ke.p 35 ?_; try simp only [Act.put, pq]
     refine Ke.p 36 ?_; try simp only [Act.put, pq]
     refine Ke.p 37 ?_; try simp only [Act.put, pq]
     refine Ke.p 38 ?_; try simp only [Act.put, pq]
     refine Ke.p 39 ?_; try simp only [Act.put, pq]
     refine Ke.p 40 ?_; try simp only [Act.put, pq]
     refine Ke.q 41 ?_; try simp only [Act.put, pq]
     refine wpAnyH_done (by kernel_rfl) ?_ _
     clear hHeld
     obtain ⟨W4, HW4, b4⟩ := Ke.v W3
     rw [HW4.out]
     have z4 := b4.size
     have B4 := Ke.b B3 b4
     have r_res4 := Ke.r r_res3 b4
     have r_h4 := Ke.r r_h3 b4
     have o_t4 := Ke.o o_t3 b4
     clear r_res3 r_h3 c_h3 o_t3
     have f_Y4 := Ke.h (Sl.later f_Y3.out b4)
     clear f_Y3
     clear r_h4
     have HN : Hid (G = no12 a) := by show _ = _; rw [← HGG.out]; exact HIF.out (by rintro ⟨h1, h2, h3, h4, h5, h6⟩; simp at h2)
     obtain ⟨W5, HW5, b5, o_z5⟩ : ∃ X, Hid ((W4.alloc (.cells #[] 9)) = X) ∧ Below W4.heap.size W4 X ∧ Hid (Own X W4.heap.size X.heap.size 9 (.slice (some ⟨W4.heap.size, 0, none⟩) 0 0) (ss [])) := ⟨_, rfl, (Below.refl _ _).alloc (Nat.le_refl _) _, emptyT W4 W4.heap.size (Nat.le_refl _)⟩
     have z5 := b5.size
     have B5 := Ke.b B4 b5
     have r_res5 := Ke.r r_res4 b5
     have o_t5 := Ke.o o_t4 b5
     clear r_res4 o_t4
     clear f_Y4
     go_wp2_with ((try rw [HW5.out]); refine wpList_store_row rfl 26 _ _ rfl (w.heap.size) (hc hd0) rfl rfl 26 _ r_res5.out (sizeH _) rfl (oneH _) ?_)
     refine bodyPost_ret (res_r3 rfl _ _ (w.heap.size) 26 (hc hd0) (0, 0) _ rfl (setRow_heap _ _ _ _ _ (0, 0) r_res5.out) Tryz.underlying26 rfl (sizeH _)) rfl ⟨.slice (some ⟨W4.heap.size, 0, none⟩) 0 0, by rw [HN.out]; rfl, ?_, below_setRow B5.out (by omega) _⟩
     rw [HN.out]
     exact (Own.setRow o_z5.out _ (by omega)).mono (by omega) (by rw [size_setRow]; omega)
    ·cases ok4
     ·refine wp_region_held_drew (S := fun w' => w'.cell? ⟨W2.heap.size, 0, none⟩ = some (.int .i64 n2) ∧ w'.cell? ⟨W2.heap.size, 1, none⟩ = some (.string s3) ∧ (convert 22 9 (.slice (some ⟨b, off + K, none⟩) 4 (cap0 - K))).run Tryz.prog w' = .ok (.string T) w') (by kernel_rfl) ⟨(c_h3 0), (c_h3 1), HCV.out _ (Below.drew B3.out)⟩ (fun hHeld => ?_)
      refine Ke.q 0 ?_; try simp only [Act.put, pq]
      refine Ke.q 1 ?_; try simp only [Act.put, pq]
      refine Ke.q 2 ?_; try simp only [Act.put, pq]
      refine Ke.q 3 ?_; try simp only [Act.put, pq]
      refine Ke.q 4 ?_; try simp only [Act.put, pq]
      refine Ke.q 5 ?_; try simp only [Act.put, pq]
      refine Ke.q 6 ?_; try simp only [Act.put, pq]
      refine Ke.q 7 ?_; try simp only [Act.put, pq]
      refine Ke.q 8 ?_; try simp only [Act.put, pq]
      refine Ke.q 9 ?_; try simp only [Act.put, pq]
      refine Ke.q 10 ?_; try simp only [Act.put, pq]
      refine Ke.p 11 ?_; try simp only [Act.put, pq]
      refine Ke.p 12 ?_; try simp only [Act.put, pq]
      refine Ke.p 13 ?_; try simp only [Act.put, pq]
      refine Ke.p 14 ?_; try simp only [Act.put, pq]
      refine Ke.q 15 ?_; try simp only [Act.put, pq]
      refine Ke.q 16 ?_; try simp only [Act.put, pq]
      refine Ke.p 17 ?_; try simp only [Act.put, pq]
      refine Ke.p 18 ?_; try simp only [Act.put, pq]
      refine Ke.p 19 ?_; try simp only [Act.put, pq]
      refine Ke.q 20 ?_; try simp only [Act.put, pq]
      refine Ke.q 21 ?_; try simp only [Act.put, pq]
      refine Ke.p 22 ?_; try simp only [Act.put, pq]
      refine Ke.p 23 ?_; try simp only [Act.put, pq]
      refine Ke.p 24 ?_; try simp only [Act.put, pq]
      refine Ke.q 25 ?_; try simp only [Act.put, pq]
      refine Ke.q 26 ?_; try simp only [Act.put, pq]
      refine Ke.p 27 ?_; try simp only [Act.put, pq]
      refine Ke.p 28 ?_; try simp only [Act.put, pq]
      refine Ke.p 29 ?_; try simp only [Act.put, pq]
      refine Ke.p 30 ?_; try simp only [Act.put, pq]
      refine Ke.p 31 ?_; try simp only [Act.put, pq]
      refine Ke.p 32 ?_; try simp only [Act.put, pq]
      refine Ke.p 33 ?_; try simp only [Act.put, pq]
      refine Ke.p 34 ?_; try simp only [Act.put, pq]
      refine Ke.p 35 ?_; try simp only [Act.put, pq]
      refine Ke.p 36 ?_; try simp only [Act.put, pq]
      refine Ke.p 37 ?_; try simp only [Act.put, pq]
      refine Ke.p 38 ?_; try simp only [Act.put, pq]
      refine Ke.p 39 ?_; try simp only [Act.put, pq]
      refine Ke.p 40 ?_; try simp only [Act.put, pq]
      refine Ke.q 41 ?_; try simp only [Act.put, pq]
      refine wpAnyH_done (by kernel_rfl) ?_ _
      clear hHeld
      obtain ⟨W4, HW4, b4⟩ := Ke.v W3
      rw [HW4.out]
      have z4 := b4.size
      have B4 := Ke.b B3 b4
      have r_res4 := Ke.r r_res3 b4
      have r_h4 := Ke.r r_h3 b4
      have o_t4 := Ke.o o_t3 b4
      clear r_res3 r_h3 c_h3 o_t3
      have f_Y4 := Ke.h (Sl.later f_Y3.out b4)
      clear f_Y3
      clear r_h4
      have HN : Hid (G = no12 a) := by show _ = _; rw [← HGG.out]; exact HIF.out (by rintro ⟨h1, h2, h3, h4, h5, h6⟩; simp at h3)
      obtain ⟨W5, HW5, b5, o_z5⟩ : ∃ X, Hid ((W4.alloc (.cells #[] 9)) = X) ∧ Below W4.heap.size W4 X ∧ Hid (Own X W4.heap.size X.heap.size 9 (.slice (some ⟨W4.heap.size, 0, none⟩) 0 0) (ss [])) := ⟨_, rfl, (Below.refl _ _).alloc (Nat.le_refl _) _, emptyT W4 W4.heap.size (Nat.le_refl _)⟩
      have z5 := b5.size
      have B5 := Ke.b B4 b5
      have r_res5 := Ke.r r_res4 b5
      have o_t5 := Ke.o o_t4 b5
      clear r_res4 o_t4
      clear f_Y4
      go_wp2_with ((try rw [HW5.out]); refine wpList_store_row rfl 26 _ _ rfl (w.heap.size) (hc hd0) rfl rfl 26 _ r_res5.out (sizeH _) rfl (oneH _) ?_)
      refine bodyPost_ret (res_r3 rfl _ _ (w.heap.size) 26 (hc hd0) (0, 0) _ rfl (setRow_heap _ _ _ _ _ (0, 0) r_res5.out) Tryz.underlying26 rfl (sizeH _)) rfl ⟨.slice (some ⟨W4.heap.size, 0, none⟩) 0 0, by rw [HN.out]; rfl, ?_, below_setRow B5.out (by omega) _⟩
      rw [HN.out]
      exact (Own.setRow o_z5.out _ (by omega)).mono (by omega) (by rw [size_setRow]; omega)
     ·by_cases hp : p4 = (m : Int)
      ·have pe : (p4 == (m : Int)) = true := by rw [beq_iff_eq]; exact hp
       have pn : (p4 != (m : Int)) = false := by rw [bne, pe]; rfl
       have HP : Hid (p4 = (m : Int)) := hp
       clear hp
       cases E
       ·refine wp_region_held_drew (S := fun w' => w'.cell? ⟨W2.heap.size, 0, none⟩ = some (.int .i64 n2) ∧ w'.cell? ⟨W2.heap.size, 1, none⟩ = some (.string s3) ∧ (convert 22 9 (.slice (some ⟨b, off + K, none⟩) 4 (cap0 - K))).run Tryz.prog w' = .ok (.string T) w') (by kernel_rfl) ⟨(c_h3 0), (c_h3 1), HCV.out _ (Below.drew B3.out)⟩ (fun hHeld => ?_)
        refine Ke.q 0 ?_; try simp only [Act.put, pq]
        refine Ke.q 1 ?_; try simp only [Act.put, pq]
        refine Ke.q 2 ?_; try simp only [Act.put, pq]
        refine Ke.q 3 ?_; try simp only [Act.put, pq]
        refine Ke.q 4 ?_; try simp only [Act.put, pq]
        refine Ke.q 5 ?_; try simp only [Act.put, pq]
        refine Ke.q 6 ?_; try simp only [Act.put, pq]
        refine Ke.q 7 ?_; try simp only [Act.put, pq]
        refine Ke.q 8 ?_; try simp only [Act.put, pq]
        refine Ke.q 9 ?_; try simp only [Act.put, pq]
        refine Ke.q 10 ?_; try simp only [Act.put, pq]
        refine Ke.q 11 ?_; try simp only [Act.put, pq]
        refine Ke.q 12 ?_; try simp only [Act.put, pq]
        refine Ke.q 13 ?_; try simp only [Act.put, pq]
        refine Ke.q 14 ?_; try simp only [Act.put, pq]
        refine Ke.q 15 ?_; try simp only [Act.put, pq]
        refine Ke.q 16 ?_; try simp only [Act.put, pq]
        refine Ke.q 17 ?_; try simp only [Act.put, pq]
        refine Ke.z 18 rfl (fun K hK => ?_)
        go_simp
        refine (qh W3.drew).mono ?_
        rintro e W4 ⟨rfl, b4⟩
        have b4 : Below W3.heap.size W3 W4 := (Below.drew (Below.refl _ _)).trans b4
        refine hK.out _ _ ⟨keepR (W := W3) hHeld.1 b4, keepR (W := W3) hHeld.2.1 b4, HCV.out _ (B3.out.trans (b4.mono B3.out.size))⟩ (fun hHeld => ?_)
        clear hK K
        try simp only [Act.put, pq]
        have z4 := b4.size
        have B4 := Ke.b B3 b4
        have r_res4 := Ke.r r_res3 b4
        have r_h4 := Ke.r r_h3 b4
        have o_t4 := Ke.o o_t3 b4
        clear r_res3 r_h3 c_h3 o_t3
        have f_Y4 := Ke.h (Sl.later f_Y3.out b4)
        clear f_Y3
        refine Ke.q 19 ?_; try simp only [Act.put, pq]
        refine Ke.q 20 ?_; try simp only [Act.put, pq]
        refine Ke.q 21 ?_; try simp only [Act.put, pq]
        refine Ke.p 22 ?_; try simp only [Act.put, pq]
        refine Ke.p 23 ?_; try simp only [Act.put, pq]
        refine Ke.p 24 ?_; try simp only [Act.put, pq]
        refine Ke.q 25 ?_; try simp only [Act.put, pq]
        refine Ke.q 26 ?_; try simp only [Act.put, pq]
        refine Ke.p 27 ?_; try simp only [Act.put, pq]
        refine Ke.p 28 ?_; try simp only [Act.put, pq]
        refine Ke.p 29 ?_; try simp only [Act.put, pq]
        refine Ke.p 30 ?_; try simp only [Act.put, pq]
        refine Ke.p 31 ?_; try simp only [Act.put, pq]
        refine Ke.p 32 ?_; try simp only [Act.put, pq]
        refine Ke.p 33 ?_; try simp only [Act.put, pq]
        refine Ke.p 34 ?_; try simp only [Act.put, pq]
        refine Ke.p 35 ?_; try simp only [Act.put, pq]
        refine Ke.p 36 ?_; try simp only [Act.put, pq]
        refine Ke.p 37 ?_; try simp only [Act.put, pq]
        refine Ke.p 38 ?_; try simp only [Act.put, pq]
        refine Ke.p 39 ?_; try simp only [Act.put, pq]
        refine Ke.p 40 ?_; try simp only [Act.put, pq]
        refine Ke.q 41 ?_; try simp only [Act.put, pq]
        refine wpAnyH_done (by kernel_rfl) ?_ _
        clear hHeld
        clear r_h4
        have HN : Hid (G = no12 a) := by show _ = _; rw [← HGG.out]; exact HIF.out (by rintro ⟨h1, h2, h3, h4, h5, h6⟩; rw [HE.out] at h5; cases h5)
        obtain ⟨W5, HW5, b5, o_z5⟩ : ∃ X, Hid ((W4.alloc (.cells #[] 9)) = X) ∧ Below W4.heap.size W4 X ∧ Hid (Own X W4.heap.size X.heap.size 9 (.slice (some ⟨W4.heap.size, 0, none⟩) 0 0) (ss [])) := ⟨_, rfl, (Below.refl _ _).alloc (Nat.le_refl _) _, emptyT W4 W4.heap.size (Nat.le_refl _)⟩
        have z5 := b5.size
        have B5 := Ke.b B4 b5
        have r_res5 := Ke.r r_res4 b5
        have o_t5 := Ke.o o_t4 b5
        clear r_res4 o_t4
        clear f_Y4
        go_wp2_with ((try rw [HW5.out]); refine wpList_store_row rfl 26 _ _ rfl (w.heap.size) (hc hd0) rfl rfl 26 _ r_res5.out (sizeH _) rfl (oneH _) ?_)
        refine bodyPost_ret (res_r3 rfl _ _ (w.heap.size) 26 (hc hd0) (0, 0) _ rfl (setRow_heap _ _ _ _ _ (0, 0) r_res5.out) Tryz.underlying26 rfl (sizeH _)) rfl ⟨.slice (some ⟨W4.heap.size, 0, none⟩) 0 0, by rw [HN.out]; rfl, ?_, below_setRow B5.out (by omega) _⟩
        rw [HN.out]
        exact (Own.setRow o_z5.out _ (by omega)).mono (by omega) (by rw [size_setRow]; omega)
       ·by_cases hl : L_t = 0
        ·have le : ((L_t : Int) == 0) = true := by rw [beq_iff_eq]; omega
         have HL : Hid (L_t = 0) := hl
         clear hl
         refine wp_region_held_drew (S := fun w' => w'.cell? ⟨W2.heap.size, 0, none⟩ = some (.int .i64 n2) ∧ w'.cell? ⟨W2.heap.size, 1, none⟩ = some (.string s3) ∧ (convert 22 9 (.slice (some ⟨b, off + K, none⟩) 4 (cap0 - K))).run Tryz.prog w' = .ok (.string T) w') (by kernel_rfl) ⟨(c_h3 0), (c_h3 1), HCV.out _ (Below.drew B3.out)⟩ (fun hHeld => ?_)
         refine Ke.q 0 ?_; try simp only [Act.put, pq]
         refine Ke.q 1 ?_; try simp only [Act.put, pq]
         refine Ke.q 2 ?_; try simp only [Act.put, pq]
         refine Ke.q 3 ?_; try simp only [Act.put, pq]
         refine Ke.q 4 ?_; try simp only [Act.put, pq]
         refine Ke.q 5 ?_; try simp only [Act.put, pq]
         refine Ke.q 6 ?_; try simp only [Act.put, pq]
         refine Ke.q 7 ?_; try simp only [Act.put, pq]
         refine Ke.q 8 ?_; try simp only [Act.put, pq]
         refine Ke.q 9 ?_; try simp only [Act.put, pq]
         refine Ke.q 10 ?_; try simp only [Act.put, pq]
         refine Ke.q 11 ?_; try simp only [Act.put, pq]
         refine Ke.q 12 ?_; try simp only [Act.put, pq]
         refine Ke.q 13 ?_; try simp only [Act.put, pq]
         refine Ke.q 14 ?_; try simp only [Act.put, pq]
         refine Ke.q 15 ?_; try simp only [Act.put, pq]
         refine Ke.q 16 ?_; try simp only [Act.put, pq]
         refine Ke.q 17 ?_; try simp only [Act.put, pq]
         refine Ke.z 18 rfl (fun K hK => ?_)
         go_simp
         refine (qh W3.drew).mono ?_
         rintro e W4 ⟨rfl, b4⟩
         have b4 : Below W3.heap.size W3 W4 := (Below.drew (Below.refl _ _)).trans b4
         refine hK.out _ _ ⟨keepR (W := W3) hHeld.1 b4, keepR (W := W3) hHeld.2.1 b4, HCV.out _ (B3.out.trans (b4.mono B3.out.size))⟩ (fun hHeld => ?_)
         clear hK K
         try simp only [Act.put, pq]
         have z4 := b4.size
         have B4 := Ke.b B3 b4
         have r_res4 := Ke.r r_res3 b4
         have r_h4 := Ke.r r_h3 b4
         have o_t4 := Ke.o o_t3 b4
         clear r_res3 r_h3 c_h3 o_t3
         have f_Y4 := Ke.h (Sl.later f_Y3.out b4)
         clear f_Y3
         refine Ke.q 19 ?_; try simp only [Act.put, pq]
         refine Ke.q 20 ?_; try simp only [Act.put, pq]
         refine Ke.q 21 ?_; try simp only [Act.put, pq]
         refine Ke.q 22 ?_; try simp only [Act.put, pq]
         refine Ke.q 23 ?_; try simp only [Act.put, pq]
         refine Ke.q 24 ?_; try simp only [Act.put, pq]
         refine Ke.q 25 ?_; try simp only [Act.put, pq]
         refine Ke.q 26 ?_; try simp only [Act.put, pq]
         refine Ke.p 27 ?_; try simp only [Act.put, pq]
         refine Ke.p 28 ?_; try simp only [Act.put, pq]
         refine Ke.p 29 ?_; try simp only [Act.put, pq]
         refine Ke.p 30 ?_; try simp only [Act.put, pq]
         refine Ke.p 31 ?_; try simp only [Act.put, pq]
         refine Ke.p 32 ?_; try simp only [Act.put, pq]
         refine Ke.p 33 ?_; try simp only [Act.put, pq]
         refine Ke.p 34 ?_; try simp only [Act.put, pq]
         refine Ke.p 35 ?_; try simp only [Act.put, pq]
         refine Ke.p 36 ?_; try simp only [Act.put, pq]
         refine Ke.p 37 ?_; try simp only [Act.put, pq]
         refine Ke.p 38 ?_; try simp only [Act.put, pq]
         refine Ke.p 39 ?_; try simp only [Act.put, pq]
         refine Ke.p 40 ?_; try simp only [Act.put, pq]
         refine Ke.q 41 ?_; try simp only [Act.put, pq]
         refine wpAnyH_done (by kernel_rfl) ?_ _
         clear hHeld
         clear r_h4
         have HN : Hid (G = no12 a) := by show _ = _; rw [← HGG.out]; exact HIF.out (by rintro ⟨h1, h2, h3, h4, h5, h6⟩; exact h6 (by have := HL.out; omega))
         obtain ⟨W5, HW5, b5, o_z5⟩ : ∃ X, Hid ((W4.alloc (.cells #[] 9)) = X) ∧ Below W4.heap.size W4 X ∧ Hid (Own X W4.heap.size X.heap.size 9 (.slice (some ⟨W4.heap.size, 0, none⟩) 0 0) (ss [])) := ⟨_, rfl, (Below.refl _ _).alloc (Nat.le_refl _) _, emptyT W4 W4.heap.size (Nat.le_refl _)⟩
         have z5 := b5.size
         have B5 := Ke.b B4 b5
         have r_res5 := Ke.r r_res4 b5
         have o_t5 := Ke.o o_t4 b5
         clear r_res4 o_t4
         clear f_Y4
         go_wp2_with ((try rw [HW5.out]); refine wpList_store_row rfl 26 _ _ rfl (w.heap.size) (hc hd0) rfl rfl 26 _ r_res5.out (sizeH _) rfl (oneH _) ?_)
         refine bodyPost_ret (res_r3 rfl _ _ (w.heap.size) 26 (hc hd0) (0, 0) _ rfl (setRow_heap _ _ _ _ _ (0, 0) r_res5.out) Tryz.underlying26 rfl (sizeH _)) rfl ⟨.slice (some ⟨W4.heap.size, 0, none⟩) 0 0, by rw [HN.out]; rfl, ?_, below_setRow B5.out (by omega) _⟩
         rw [HN.out]
         exact (Own.setRow o_z5.out _ (by omega)).mono (by omega) (by rw [size_setRow]; omega)
        ·have le : ((L_t : Int) == 0) = false := by rw [beq_eq_false_iff_ne]; omega
         have HL : Hid (¬ L_t = 0) := hl
         clear hl
         have HY5 := HIY.out rfl rfl rfl (by have := HP.out; omega) HE.out (by have := HL.out; omega)
         have HY6 : Hid (getC xs a = if T = D4 then (⟨n2, s3⟩, l4, (J : Int), true) else no12 a) := HY5
         clear HY5
         by_cases hT : T = D4
         ·subst hT
          have te : (T.toList == T.toList) = true := by simp
          have tn : (T.toList != T.toList) = false := by rw [bne, te]; rfl
          refine wp_region_held_drew (S := fun w' => w'.cell? ⟨W2.heap.size, 0, none⟩ = some (.int .i64 n2) ∧ w'.cell? ⟨W2.heap.size, 1, none⟩ = some (.string s3) ∧ (convert 22 9 (.slice (some ⟨b, off + K, none⟩) 4 (cap0 - K))).run Tryz.prog w' = .ok (.string T) w') (by kernel_rfl) ⟨(c_h3 0), (c_h3 1), HCV.out _ (Below.drew B3.out)⟩ (fun hHeld => ?_)
          refine Ke.q 0 ?_; try simp only [Act.put, pq]
          refine Ke.q 1 ?_; try simp only [Act.put, pq]
          refine Ke.q 2 ?_; try simp only [Act.put, pq]
          refine Ke.q 3 ?_; try simp only [Act.put, pq]
          refine Ke.q 4 ?_; try simp only [Act.put, pq]
          refine Ke.q 5 ?_; try simp only [Act.put, pq]
          refine Ke.q 6 ?_; try simp only [Act.put, pq]
          refine Ke.q 7 ?_; try simp only [Act.put, pq]
          refine Ke.q 8 ?_; try simp only [Act.put, pq]
          refine Ke.q 9 ?_; try simp only [Act.put, pq]
          refine Ke.q 10 ?_; try simp only [Act.put, pq]
          refine Ke.q 11 ?_; try simp only [Act.put, pq]
          refine Ke.q 12 ?_; try simp only [Act.put, pq]
          refine Ke.q 13 ?_; try simp only [Act.put, pq]
          refine Ke.q 14 ?_; try simp only [Act.put, pq]
          refine Ke.q 15 ?_; try simp only [Act.put, pq]
          refine Ke.q 16 ?_; try simp only [Act.put, pq]
          refine Ke.q 17 ?_; try simp only [Act.put, pq]
          refine Ke.z 18 rfl (fun K hK => ?_)
          go_simp
          refine (qh W3.drew).mono ?_
          rintro e W4 ⟨rfl, b4⟩
          have b4 : Below W3.heap.size W3 W4 := (Below.drew (Below.refl _ _)).trans b4
          refine hK.out _ _ ⟨keepR (W := W3) hHeld.1 b4, keepR (W := W3) hHeld.2.1 b4, HCV.out _ (B3.out.trans (b4.mono B3.out.size))⟩ (fun hHeld => ?_)
          clear hK K
          try simp only [Act.put, pq]
          have z4 := b4.size
          have B4 := Ke.b B3 b4
          have r_res4 := Ke.r r_res3 b4
          have r_h4 := Ke.r r_h3 b4
          have o_t4 := Ke.o o_t3 b4
          clear r_res3 r_h3 c_h3 o_t3
          have f_Y4 := Ke.h (Sl.later f_Y3.out b4)
          clear f_Y3
          refine Ke.q 19 ?_; try simp only [Act.put, pq]
          refine Ke.q 20 ?_; try simp only [Act.put, pq]
          refine Ke.q 21 ?_; try simp only [Act.put, pq]
          refine Ke.q 22 ?_; try simp only [Act.put, pq]
          refine Ke.q 23 ?_; try simp only [Act.put, pq]
          refine Ke.q 24 ?_; try simp only [Act.put, pq]
          refine Ke.q 25 ?_; try simp only [Act.put, pq]
          refine Ke.q 26 ?_; try simp only [Act.put, pq]
          refine Ke.q 27 ?_; try simp only [Act.put, pq]
          refine Ke.q 28 ?_; try simp only [Act.put, pq]
          refine Ke.q 29 ?_; try simp only [Act.put, pq]
          refine Ke.q 30 ?_; try simp only [Act.put, pq]
          refine Ke.q 31 ?_; try simp only [Act.put, pq]
          refine Ke.q 32 ?_; try simp only [Act.put, pq]
          refine Ke.q 33 ?_; try simp only [Act.put, pq]
          refine Ke.q 34 ?_; try simp only [Act.put, pq]
          refine Ke.q 35 ?_; try simp only [Act.put, pq]
          refine Ke.q 36 ?_; try simp only [Act.put, pq]
          refine Ke.q 37 ?_; try simp only [Act.put, pq]
          refine Ke.z 38 rfl (fun K hK => ?_)
          go_simp
          refine (qd W4 _ (Sl.later (w := W4) f_Y4.out (Below.refl _ _))).mono ?_
          rintro e W5 ⟨rfl, b5⟩
          refine hK.out _ _ ⟨keepR (W := W4) hHeld.1 b5, keepR (W := W4) hHeld.2.1 b5, HCV.out _ (B4.out.trans (b5.mono B4.out.size))⟩ (fun hHeld => ?_)
          clear hK K
          try simp only [Act.put, pq]
          have z5 := b5.size
          have B5 := Ke.b B4 b5
          have r_res5 := Ke.r r_res4 b5
          have r_h5 := Ke.r r_h4 b5
          have o_t5 := Ke.o o_t4 b5
          have c_h5 := Ke.c r_h5
          clear r_res4 r_h4 o_t4
          clear f_Y4
          refine Ke.q 39 ?_; try simp only [Act.put, pq]
          refine Ke.q 40 ?_; try simp only [Act.put, pq]
          refine Ke.q 41 ?_; try simp only [Act.put, pq]
          refine wpAnyH_done (by kernel_rfl) ?_ _
          clear hHeld
          have HN : Hid (G = (⟨n2, s3⟩, l4, (J : Int), true)) := by show _ = _; rw [← HGG.out, HY6.out, if_pos rfl]
          go_wp2_with (refine wpList_store_row rfl 26 _ _ rfl (w.heap.size) (hc ⟨n2, s3⟩) rfl rfl 26 _ r_res5.out (sizeH _) rfl (oneH _) ?_)
          refine bodyPost_ret (res_r3 rfl _ _ (w.heap.size) 26 (hc ⟨n2, s3⟩) (0, 0) _ rfl (setRow_heap _ _ _ _ _ (0, 0) r_res5.out) Tryz.underlying26 rfl (sizeH _)) rfl ⟨.slice ao_t L_t cap_t, by rw [HN.out]; rfl, ?_, below_setRow B5.out (by omega) _⟩
          rw [HN.out]
          exact (Own.setRow o_t5.out _ (by omega)).mono (by omega) (by rw [size_setRow]; omega)
         ·have te : (T.toList == D4.toList) = false := by
           rw [beq_eq_false_iff_ne, ByteArray.toList_eq, ByteArray.toList_eq]
           exact fun e => hT (by apply ByteArray.ext; apply Array.ext'; exact e)
          have tn : (T.toList != D4.toList) = true := by rw [bne, te]; rfl
          refine wp_region_held_drew (S := fun w' => w'.cell? ⟨W2.heap.size, 0, none⟩ = some (.int .i64 n2) ∧ w'.cell? ⟨W2.heap.size, 1, none⟩ = some (.string s3) ∧ (convert 22 9 (.slice (some ⟨b, off + K, none⟩) 4 (cap0 - K))).run Tryz.prog w' = .ok (.string T) w') (by kernel_rfl) ⟨(c_h3 0), (c_h3 1), HCV.out _ (Below.drew B3.out)⟩ (fun hHeld => ?_)
          refine Ke.q 0 ?_; try simp only [Act.put, pq]
          refine Ke.q 1 ?_; try simp only [Act.put, pq]
          refine Ke.q 2 ?_; try simp only [Act.put, pq]
          refine Ke.q 3 ?_; try simp only [Act.put, pq]
          refine Ke.q 4 ?_; try simp only [Act.put, pq]
          refine Ke.q 5 ?_; try simp only [Act.put, pq]
          refine Ke.q 6 ?_; try simp only [Act.put, pq]
          refine Ke.q 7 ?_; try simp only [Act.put, pq]
          refine Ke.q 8 ?_; try simp only [Act.put, pq]
          refine Ke.q 9 ?_; try simp only [Act.put, pq]
          refine Ke.q 10 ?_; try simp only [Act.put, pq]
          refine Ke.q 11 ?_; try simp only [Act.put, pq]
          refine Ke.q 12 ?_; try simp only [Act.put, pq]
          refine Ke.q 13 ?_; try simp only [Act.put, pq]
          refine Ke.q 14 ?_; try simp only [Act.put, pq]
          refine Ke.q 15 ?_; try simp only [Act.put, pq]
          refine Ke.q 16 ?_; try simp only [Act.put, pq]
          refine Ke.q 17 ?_; try simp only [Act.put, pq]
          refine Ke.z 18 rfl (fun K hK => ?_)
          go_simp
          refine (qh W3.drew).mono ?_
          rintro e W4 ⟨rfl, b4⟩
          have b4 : Below W3.heap.size W3 W4 := (Below.drew (Below.refl _ _)).trans b4
          refine hK.out _ _ ⟨keepR (W := W3) hHeld.1 b4, keepR (W := W3) hHeld.2.1 b4, HCV.out _ (B3.out.trans (b4.mono B3.out.size))⟩ (fun hHeld => ?_)
          clear hK K
          try simp only [Act.put, pq]
          have z4 := b4.size
          have B4 := Ke.b B3 b4
          have r_res4 := Ke.r r_res3 b4
          have r_h4 := Ke.r r_h3 b4
          have o_t4 := Ke.o o_t3 b4
          clear r_res3 r_h3 c_h3 o_t3
          have f_Y4 := Ke.h (Sl.later f_Y3.out b4)
          clear f_Y3
          refine Ke.q 19 ?_; try simp only [Act.put, pq]
          refine Ke.q 20 ?_; try simp only [Act.put, pq]
          refine Ke.q 21 ?_; try simp only [Act.put, pq]
          refine Ke.q 22 ?_; try simp only [Act.put, pq]
          refine Ke.q 23 ?_; try simp only [Act.put, pq]
          refine Ke.q 24 ?_; try simp only [Act.put, pq]
          refine Ke.q 25 ?_; try simp only [Act.put, pq]
          refine Ke.q 26 ?_; try simp only [Act.put, pq]
          refine Ke.q 27 ?_; try simp only [Act.put, pq]
          refine Ke.q 28 ?_; try simp only [Act.put, pq]
          refine Ke.q 29 ?_; try simp only [Act.put, pq]
          refine Ke.q 30 ?_; try simp only [Act.put, pq]
          refine Ke.q 31 ?_; try simp only [Act.put, pq]
          refine Ke.q 32 ?_; try simp only [Act.put, pq]
          refine Ke.q 33 ?_; try simp only [Act.put, pq]
          refine Ke.q 34 ?_; try simp only [Act.put, pq]
          refine Ke.q 35 ?_; try simp only [Act.put, pq]
          refine Ke.q 36 ?_; try simp only [Act.put, pq]
          refine Ke.q 37 ?_; try simp only [Act.put, pq]
          refine Ke.z 38 rfl (fun K hK => ?_)
          go_simp
          refine (qd W4 _ (Sl.later (w := W4) f_Y4.out (Below.refl _ _))).mono ?_
          rintro e W5 ⟨rfl, b5⟩
          refine hK.out _ _ ⟨keepR (W := W4) hHeld.1 b5, keepR (W := W4) hHeld.2.1 b5, HCV.out _ (B4.out.trans (b5.mono B4.out.size))⟩ (fun hHeld => ?_)
          clear hK K
          try simp only [Act.put, pq]
          have z5 := b5.size
          have B5 := Ke.b B4 b5
          have r_res5 := Ke.r r_res4 b5
          have r_h5 := Ke.r r_h4 b5
          have o_t5 := Ke.o o_t4 b5
          have c_h5 := Ke.c r_h5
          clear r_res4 r_h4 o_t4
          clear f_Y4
          refine Ke.q 39 ?_; try simp only [Act.put, pq]
          refine Ke.q 40 ?_; try simp only [Act.put, pq]
          refine Ke.q 41 ?_; try simp only [Act.put, pq]
          refine wpAnyH_done (by kernel_rfl) ?_ _
          clear hHeld
          clear r_h5 c_h5
          have HN : Hid (G = no12 a) := by show _ = _; rw [← HGG.out]; rw [HY6.out, if_neg hT]
          obtain ⟨W6, HW6, b6, o_z6⟩ : ∃ X, Hid ((W5.alloc (.cells #[] 9)) = X) ∧ Below W5.heap.size W5 X ∧ Hid (Own X W5.heap.size X.heap.size 9 (.slice (some ⟨W5.heap.size, 0, none⟩) 0 0) (ss [])) := ⟨_, rfl, (Below.refl _ _).alloc (Nat.le_refl _) _, emptyT W5 W5.heap.size (Nat.le_refl _)⟩
          have z6 := b6.size
          have B6 := Ke.b B5 b6
          have r_res6 := Ke.r r_res5 b6
          clear r_res5 o_t5
          go_wp2_with ((try rw [HW6.out]); refine wpList_store_row rfl 26 _ _ rfl (w.heap.size) (hc hd0) rfl rfl 26 _ r_res6.out (sizeH _) rfl (oneH _) ?_)
          refine bodyPost_ret (res_r3 rfl _ _ (w.heap.size) 26 (hc hd0) (0, 0) _ rfl (setRow_heap _ _ _ _ _ (0, 0) r_res6.out) Tryz.underlying26 rfl (sizeH _)) rfl ⟨.slice (some ⟨W5.heap.size, 0, none⟩) 0 0, by rw [HN.out]; rfl, ?_, below_setRow B6.out (by omega) _⟩
          rw [HN.out]
          exact (Own.setRow o_z6.out _ (by omega)).mono (by omega) (by rw [size_setRow]; omega)
      ·have pe : (p4 == (m : Int)) = false := by rw [beq_eq_false_iff_ne]; exact hp
       have pn : (p4 != (m : Int)) = true := by rw [bne, pe]; rfl
       refine wp_region_held_drew (S := fun w' => w'.cell? ⟨W2.heap.size, 0, none⟩ = some (.int .i64 n2) ∧ w'.cell? ⟨W2.heap.size, 1, none⟩ = some (.string s3) ∧ (convert 22 9 (.slice (some ⟨b, off + K, none⟩) 4 (cap0 - K))).run Tryz.prog w' = .ok (.string T) w') (by kernel_rfl) ⟨(c_h3 0), (c_h3 1), HCV.out _ (Below.drew B3.out)⟩ (fun hHeld => ?_)
       refine Ke.q 0 ?_; try simp only [Act.put, pq]
       refine Ke.q 1 ?_; try simp only [Act.put, pq]
       refine Ke.q 2 ?_; try simp only [Act.put, pq]
       refine Ke.q 3 ?_; try simp only [Act.put, pq]
       refine Ke.q 4 ?_; try simp only [Act.put, pq]
       refine Ke.q 5 ?_; try simp only [Act.put, pq]
       refine Ke.q 6 ?_; try simp only [Act.put, pq]
       refine Ke.q 7 ?_; try simp only [Act.put, pq]
       refine Ke.q 8 ?_; try simp only [Act.put, pq]
       refine Ke.q 9 ?_; try simp only [Act.put, pq]
       refine Ke.q 10 ?_; try simp only [Act.put, pq]
       refine Ke.q 11 ?_; try simp only [Act.put, pq]
       refine Ke.q 12 ?_; try simp only [Act.put, pq]
       refine Ke.q 13 ?_; try simp only [Act.put, pq]
       refine Ke.q 14 ?_; try simp only [Act.put, pq]
       refine Ke.q 15 ?_; try simp only [Act.put, pq]
       refine Ke.q 16 ?_; try simp only [Act.put, pq]
       refine Ke.p 17 ?_; try simp only [Act.put, pq]
       refine Ke.p 18 ?_; try simp only [Act.put, pq]
       refine Ke.p 19 ?_; try simp only [Act.put, pq]
       refine Ke.q 20 ?_; try simp only [Act.put, pq]
       refine Ke.q 21 ?_; try simp only [Act.put, pq]
       refine Ke.p 22 ?_; try simp only [Act.put, pq]
       refine Ke.p 23 ?_; try simp only [Act.put, pq]
       refine Ke.p 24 ?_; try simp only [Act.put, pq]
       refine Ke.q 25 ?_; try simp only [Act.put, pq]
       refine Ke.q 26 ?_; try simp only [Act.put, pq]
       refine Ke.p 27 ?_; try simp only [Act.put, pq]
       refine Ke.p 28 ?_; try simp only [Act.put, pq]
       refine Ke.p 29 ?_; try simp only [Act.put, pq]
       refine Ke.p 30 ?_; try simp only [Act.put, pq]
       refine Ke.p 31 ?_; try simp only [Act.put, pq]
       refine Ke.p 32 ?_; try simp only [Act.put, pq]
       refine Ke.p 33 ?_; try simp only [Act.put, pq]
       refine Ke.p 34 ?_; try simp only [Act.put, pq]
       refine Ke.p 35 ?_; try simp only [Act.put, pq]
       refine Ke.p 36 ?_; try simp only [Act.put, pq]
       refine Ke.p 37 ?_; try simp only [Act.put, pq]
       refine Ke.p 38 ?_; try simp only [Act.put, pq]
       refine Ke.p 39 ?_; try simp only [Act.put, pq]
       refine Ke.p 40 ?_; try simp only [Act.put, pq]
       refine Ke.q 41 ?_; try simp only [Act.put, pq]
       refine wpAnyH_done (by kernel_rfl) ?_ _
       clear hHeld
       obtain ⟨W4, HW4, b4⟩ := Ke.v W3
       rw [HW4.out]
       have z4 := b4.size
       have B4 := Ke.b B3 b4
       have r_res4 := Ke.r r_res3 b4
       have r_h4 := Ke.r r_h3 b4
       have o_t4 := Ke.o o_t3 b4
       clear r_res3 r_h3 c_h3 o_t3
       have f_Y4 := Ke.h (Sl.later f_Y3.out b4)
       clear f_Y3
       clear r_h4
       have HN : Hid (G = no12 a) := by show _ = _; rw [← HGG.out]; exact HIF.out (by rintro ⟨h1, h2, h3, h4, h5, h6⟩; exact hp (by omega))
       obtain ⟨W5, HW5, b5, o_z5⟩ : ∃ X, Hid ((W4.alloc (.cells #[] 9)) = X) ∧ Below W4.heap.size W4 X ∧ Hid (Own X W4.heap.size X.heap.size 9 (.slice (some ⟨W4.heap.size, 0, none⟩) 0 0) (ss [])) := ⟨_, rfl, (Below.refl _ _).alloc (Nat.le_refl _) _, emptyT W4 W4.heap.size (Nat.le_refl _)⟩
       have z5 := b5.size
       have B5 := Ke.b B4 b5
       have r_res5 := Ke.r r_res4 b5
       have o_t5 := Ke.o o_t4 b5
       clear r_res4 o_t4
       clear f_Y4
       go_wp2_with ((try rw [HW5.out]); refine wpList_store_row rfl 26 _ _ rfl (w.heap.size) (hc hd0) rfl rfl 26 _ r_res5.out (sizeH _) rfl (oneH _) ?_)
       refine bodyPost_ret (res_r3 rfl _ _ (w.heap.size) 26 (hc hd0) (0, 0) _ rfl (setRow_heap _ _ _ _ _ (0, 0) r_res5.out) Tryz.underlying26 rfl (sizeH _)) rfl ⟨.slice (some ⟨W4.heap.size, 0, none⟩) 0 0, by rw [HN.out]; rfl, ?_, below_setRow B5.out (by omega) _⟩
       rw [HN.out]
       exact (Own.setRow o_z5.out _ (by omega)).mono (by omega) (by rw [size_setRow]; omega)
  ·have HN : Hid (G = no12 a) := by show _ = _; rw [← HGG.out]; unfold getC; rw [HG.out, if_neg (fun h => absurd h.2 (by omega))]
   obtain ⟨W2, HW2, b2, o_z2⟩ : ∃ X, Hid ((W1.alloc (.cells #[] 9)) = X) ∧ Below W1.heap.size W1 X ∧ Hid (Own X W1.heap.size X.heap.size 9 (.slice (some ⟨W1.heap.size, 0, none⟩) 0 0) (ss [])) := ⟨_, rfl, (Below.refl _ _).alloc (Nat.le_refl _) _, emptyT W1 W1.heap.size (Nat.le_refl _)⟩
   have z2 := b2.size
   have B2 := Ke.b B1 b2
   have r_res2 := Ke.r r_res1 b2
   clear r_res1
   go_wp2_with ((try rw [HW2.out]); refine wpList_store_row rfl 26 _ _ rfl (w.heap.size) (hc hd0) rfl rfl 26 _ r_res2.out (sizeH _) rfl (oneH _) ?_)
   refine bodyPost_ret (res_r3 rfl _ _ (w.heap.size) 26 (hc hd0) (0, 0) _ rfl (setRow_heap _ _ _ _ _ (0, 0) r_res2.out) Tryz.underlying26 rfl (sizeH _)) rfl ⟨.slice (some ⟨W1.heap.size, 0, none⟩) 0 0, by rw [HN.out]; rfl, ?_, below_setRow B2.out (by omega) _⟩
   rw [HN.out]
   exact (Own.setRow o_z2.out _ (by omega)).mono (by omega) (by rw [size_setRow]; omega)
end Go.Proofs.YtchonoonclllbaaGreatDoor.Sr
