/- Texts in one: SrB. -/
import Derived.Test.YtfpaichdkddglaaGreatDoorPm12
namespace Go.Proofs.YtfpaichdkddglaaGreatDoor.Sr
open Go.RowKit Go.Proofs.YtfpaichdkddglaaGreatDoor.Mem Go.Proofs.YtfpaichdkddglaaGreatDoor.Laws Go.Proofs.YtfpaichdkddglaaGreatDoor.Bytes Go.Proofs.YtfpaichdkddglaaGreatDoor.Sha Go.Proofs.YtfpaichdkddglaaGreatDoor.Tr Go.Proofs.YtfpaichdkddglaaGreatDoor.He Go.Proofs.YtfpaichdkddglaaGreatDoor.Lg
set_option linter.unusedVariables false
set_option linter.unusedSimpArgs false
theorem res_r3 {P : Program} {fn : Func} {p q u v : Tmp} {ty : TypeId} (h : fn.results = #[.cell p ty, .tmp q, .tmp u, .tmp v]) (tmps : Array Value) (w : World) (g1 : Nat) (t : TypeId) (c1 : Array Value) (fr : Nat × Nat) (d : TypeDesc)
  (hp : tmps.getD p undef = .pointer (some ⟨g1, 0, none⟩)) (hg1 : w.heap[g1]? = some (.cells c1 t fr))
  (hu : P.underlying ty = some d) (hd : (match d with | .struct _ | .array _ _ => true | _ => false) = true) (hi1 : (P.info? ty).map (·.size) = some c1.size) :
  (results fn tmps).run P w = .ok (.tuple #[.agg c1, tmps.getD q undef, tmps.getD u undef, tmps.getD v undef]) w := by
 have hp' : tmps[p]?.getD undef = .pointer (some ⟨g1, 0, none⟩) := by simpa using hp
 simp [results, h, hp', asAddr, run_loadVar_row w g1 t ty c1 fr d hg1 hu hd hi1]
theorem slMidB {w : World} {b off L cap : Nat} {xs : List Int} (h : Sl w (.slice (some ⟨b, off, none⟩) L cap) (bs xs)) (q m : Nat) (hq : q + m < xs.length) : Sl w (.slice (some ⟨b, off + q, none⟩) m (cap - q)) (bs ((xs.drop q).take m)) := by
 have h1 := slBack h q (by rw [bs_len]; omega)
 have h2 := Sl.front h1 m (by rw [List.length_drop, bs_len]; omega)
 have e : bs ((xs.drop q).take m) = ((bs xs).drop q).take m := by unfold bs; rw [List.map_take, List.map_drop]
 rw [e]
 exact h2
theorem conv12 {w : World} {b off L cap : Nat} {xs : List Int} {k c : Nat} (h : Sl w (.slice (some ⟨b, off, none⟩) L cap) (bs xs)) (hb : Byt xs) (hk : k + 4 ≤ xs.length) :
  (convert 22 9 (.slice (some ⟨b, off + k, none⟩) 4 c)).run Tryz.prog w = .ok (.string (Plain.txt ((xs.drop k).take 4))) w := by
 refine GetT.conv_some hb ?_ hk
 intro j hj
 obtain ⟨ao, cap', he, _, _, hr⟩ := h
 simp only [Value.slice.injEq] at he
 obtain ⟨rfl, _, _⟩ := he
 have := hr (by rw [bs_len]; omega)
 obtain ⟨b', off', he', hc⟩ := this
 simp only [Option.some.injEq, Addr.mk.injEq, and_true] at he'
 obtain ⟨rfl, rfl⟩ := he'
 exact hc j (by rw [bs_len]; exact hj)
theorem sb_inj12 {a b : ByteArray} (h : sb a = sb b) : a = b := by
 have := congrArg Plain.txt h
 rwa [Plain.txt_sb, Plain.txt_sb] at this
theorem getNum_small (xs : List Int) (a : Int) : 0 ≤ (Plain.getNum xs a).2.1 ∧ (Plain.getNum xs a).2.1 ≤ xs.length := by
 obtain ⟨n, p, ok, hg⟩ : ∃ n p ok, Plain.getNum xs a = (n, p, ok) := ⟨_, _, _, rfl⟩
 rw [hg]
 cases ok
 ·
  unfold Plain.getNum at hg
  split at hg
  ·
   split at hg
   ·
    simp at hg
   ·
    simp only [Prod.mk.injEq] at hg
    simp only
    omega
  ·
   simp only [Prod.mk.injEq] at hg
   simp only
   omega
 ·
  have := Plain.getNum_bd hg
  simp only
  omega
theorem getText_small (xs : List Int) (a : Int) : 0 ≤ (Plain.getText xs a).2.1 ∧ (Plain.getText xs a).2.1 ≤ xs.length ∧ (Plain.getText xs a).1.size ≤ xs.length := by
 obtain ⟨s, p, ok, hg⟩ : ∃ n p ok, Plain.getText xs a = (n, p, ok) := ⟨_, _, _, rfl⟩
 rw [hg]
 cases ok
 ·
  unfold Plain.getText at hg
  split at hg
  ·
   simp at hg
  ·
   simp only [Prod.mk.injEq] at hg
   obtain ⟨rfl, rfl, _⟩ := hg
   exact ⟨Int.le_refl _, Int.natCast_nonneg _, Nat.zero_le _⟩
 ·
  have := Plain.getText_bd hg
  simp only
  omega
def GotC (xs : List Int) (a : Int) (w : World) (e : Ending) (w' : World) : Prop :=
 ∃ v', e = .returned (.tuple #[.agg #[.int .i64 (getC xs a).1.n, .string (getC xs a).1.r], v', .int .i64 (getC xs a).2.2.1, .bool (getC xs a).2.2.2]) ∧ Own w' w.heap.size w'.heap.size 9 v' (ss (getC xs a).2.1) ∧ Below w.heap.size w w'
set_option maxRecDepth 1000000 in
set_option maxHeartbeats 8000000 in
theorem get_spec (w : World) (v : Value) (xs : List Int) (a : Int) (hs : Sl w v (bs xs)) (hb : Byt xs) (hx : xs.length ≤ 1000000000000) (hlo : -9223372036854775808 ≤ a) (hhi : a ≤ 9223372036854775807) :
  Calls Tryz.prog 105 #[v, .int .i64 a] w fun e w' => GotC xs a w e w' := by
 have HS : Hid (Sl w v (bs xs)) := hs
 have HBY : Hid (Byt xs) := hb
 obtain ⟨ao0, cap0, rfl, hc0⟩ := hs.form
 rw [bs_len] at *
 clear hs hb
 have B0 : Hid (Below w.heap.size w w) := Below.refl _ _
 obtain ⟨i9, hi9, hz9a, hz9b, hz9c⟩ := info_parts info9t
 obtain ⟨W1, HW1, b1, y1, hS1, r_res1⟩ : ∃ X, Hid ((w.alloc (.cells #[.int .i64 0, .string ⟨#[]⟩] 28)) = X) ∧ Below w.heap.size w X ∧ w.heap.size + 1 ≤ X.heap.size ∧ Hid (X.heap.size = w.heap.size + 1) ∧ Hid (X.heap[w.heap.size]? = some (.cells #[.int .i64 0, .string ⟨#[]⟩] 28 (0, 0))) := ⟨_, rfl, ((Below.refl _ _).alloc (Nat.le_refl _) _), by simp, by show _ = _; simp, (by show _ = _; exact alloc_nth1_0 w _)⟩
 have z1 : w.heap.size ≤ W1.heap.size := b1.size
 have B1 : Hid (Below w.heap.size w W1) := B0.out.trans (b1.mono B0.out.size)
 have q1 := Gets.get_spec W1 _ xs a (HS.out.later B1.out) HBY.out (by omega) hlo hhi
 obtain ⟨n, p, ok, hg⟩ : ∃ n p ok, Plain.getNum xs a = (n, p, ok) := ⟨_, _, _, rfl⟩
 rw [hg] at q1
 have HG : Hid (Plain.getNum xs a = (n, p, ok)) := hg
 simp only at q1
 clear hg
 obtain ⟨G, hG⟩ : ∃ G, getC xs a = G := ⟨_, rfl⟩
 have HGG : Hid (getC xs a = G) := hG
 unfold GotC
 rw [hG]
 clear hG
 go_enter Tryz.func105, Tryz.ntmps105
 go_wp2_with fail
 rw [HW1.out]
 refine (q1).mono ?_
 rintro e W_ ⟨rfl, hW_⟩
 have hW_ := hW_.symm
 subst hW_
 clear q1
 cases ok
 ·
  have HN : Hid (G = no12 a) := by show _ = _; rw [← HGG.out]; unfold getC; rw [HG.out, if_neg (by simp)]
  obtain ⟨W2, HW2, b2, o_z2⟩ : ∃ X, Hid ((W1.alloc (.cells #[] 9)) = X) ∧ Below W1.heap.size W1 X ∧ Hid (Own X W1.heap.size X.heap.size 9 (.slice (some ⟨W1.heap.size, 0, none⟩) 0 0) (ss [])) := ⟨_, rfl, (Below.refl _ _).alloc (Nat.le_refl _) _, emptyT W1 W1.heap.size (Nat.le_refl _)⟩
  have B2 : Hid (Below w.heap.size w W2) := B1.out.trans (b2.mono B1.out.size)
  have r_res2 : Hid (W2.heap[w.heap.size]? = some (.cells #[.int .i64 0, .string ⟨#[]⟩] 28 (0, 0))) := rowKeep r_res1.out b2
  clear r_res1
  go_wp2_with ((try rw [HW2.out]); refine wpList_store_row rfl 28 _ _ rfl (w.heap.size) (hc hd0) rfl rfl 28 _ r_res2.out (sizeH _) rfl (oneH _) ?_)
  refine bodyPost_ret (res_r3 rfl _ _ (w.heap.size) 28 (hc hd0) (0, 0) _ rfl (setRow_heap _ _ _ _ _ (0, 0) r_res2.out) Tryz.underlying28 rfl (sizeH _)) rfl ⟨.slice (some ⟨W1.heap.size, 0, none⟩) 0 0, by rw [HN.out]; rfl, ?_, below_setRow B2.out (by omega) _⟩
  rw [HN.out]
  exact (Own.setRow o_z2.out _ (by omega)).mono (by omega) (by rw [size_setRow]; omega)
 ·
  obtain ⟨g0, g1, g2, g3, g4, g5⟩ := Plain.getNum_bd HG.out
  obtain ⟨m, rfl⟩ : ∃ m : Nat, n = (m : Int) := ⟨n.toNat, by omega⟩
  obtain ⟨q, rfl⟩ : ∃ q : Nat, p = (q : Int) := ⟨p.toNat, by omega⟩
  by_cases hcc : (m : Int) ≤ (xs.length : Int) - (q : Int) - 4
  ·
   obtain ⟨b, off, cap, he, hcap⟩ := slForm HS.out (by rw [bs_len]; omega)
   simp only [Value.slice.injEq] at he
   obtain ⟨rfl, -, rfl⟩ := he
   rw [bs_len] at hcap
   have hcq : ¬ cap0 = q := by omega
   obtain ⟨Y, hY⟩ : ∃ Y, (xs.drop q).take m = Y := ⟨_, rfl⟩
   have hYl : Y.length ≤ m ∧ m ≤ Y.length := by rw [← hY, List.length_take, List.length_drop]; omega
   have HYB : Hid (Byt Y) := by show Byt Y; rw [← hY]; exact fun y hy => HBY.out y (List.mem_of_mem_drop (List.mem_of_mem_take hy))
   have f_Y1 : Hid (Sl W1 (.slice (some ⟨b, off + q, none⟩) m (cap0 - q)) (bs Y)) := by show Sl _ _ _; rw [← hY]; exact slMidB (HS.out.later B1.out) q m (by omega)
   have HYY : Hid ((xs.drop q).take m = Y) := hY
   clear hY
   obtain ⟨K, hK⟩ : ∃ K, q + m = K := ⟨_, rfl⟩
   obtain ⟨J, hJ⟩ : ∃ J, K + 4 = J := ⟨_, rfl⟩
   have HKJ : Hid (q + m = K ∧ K + 4 = J) := ⟨hK, hJ⟩
   have iK : (K : Int) = (q : Int) + (m : Int) ∧ (J : Int) = (K : Int) + 4 := by omega
   have HIK : Hid ((K : Int) = (q : Int) + (m : Int) ∧ (J : Int) = (K : Int) + 4) := iK
   clear hK hJ iK
   obtain ⟨T, hT⟩ : ∃ T, Plain.txt ((xs.drop K).take 4) = T := ⟨_, rfl⟩
   have cv : ∀ W, Below w.heap.size w W → (convert 22 9 (.slice (some ⟨b, off + K, none⟩) 4 (cap0 - K))).run Tryz.prog W = .ok (.string T) W := fun W hW => by rw [← hT]; exact conv12 (HS.out.later hW) HBY.out (by have := HKJ.out; omega)
   have HTT : Hid (Plain.txt ((xs.drop K).take 4) = T) := hT
   have HCV : Hid (∀ W, Below w.heap.size w W → (convert 22 9 (.slice (some ⟨b, off + K, none⟩) 4 (cap0 - K))).run Tryz.prog W = .ok (.string T) W) := cv
   clear hT cv
   have q2 : ∀ v1, Sl W1 v1 (bs Y) → _ := fun v1 h1 => Gets.get_spec W1 v1 Y 0 h1 HYB.out (by omega) (by omega) (by omega)
   obtain ⟨n2, p2, ok2, hg2⟩ : ∃ n p ok, Plain.getNum Y 0 = (n, p, ok) := ⟨_, _, _, rfl⟩
   simp only [hg2] at q2
   have HG2 : Hid (Plain.getNum Y 0 = (n2, p2, ok2)) := hg2
   have sm2 := getNum_small Y 0
   rw [hg2] at sm2
   simp only at sm2
   clear hg2
   have q3 : ∀ v1, Sl W1 v1 (bs Y) → _ := fun v1 h1 => GetT.text_spec W1 v1 Y p2 h1 HYB.out (by omega) (by omega) (by omega)
   obtain ⟨s3, p3, ok3, hg3⟩ : ∃ n p ok, Plain.getText Y p2 = (n, p, ok) := ⟨_, _, _, rfl⟩
   simp only [hg3] at q3
   have HG3 : Hid (Plain.getText Y p2 = (s3, p3, ok3)) := hg3
   have sm3 := getText_small Y p2
   rw [hg3] at sm3
   simp only at sm3
   clear hg3
   have q4 : ∀ v1, Sl W1 v1 (bs Y) → _ := fun v1 h1 => GetTs.texts_spec W1 v1 Y p3 h1 HYB.out (by omega) (by omega) (by omega)
   obtain ⟨l4, p4, ok4, hg4⟩ : ∃ n p ok, Plain.getTexts Y p3 = (n, p, ok) := ⟨_, _, _, rfl⟩
   unfold GetTs.Done at q4
   simp only [hg4] at q4
   have HG4 : Hid (Plain.getTexts Y p3 = (l4, p4, ok4)) := hg4
   have sm4 := Plain.getTexts_len Y p3
   rw [hg4] at sm4
   simp only at sm4
   clear hg4
   go_wp2_with fail
   refine (q2 _ f_Y1.out).mono ?_
   rintro e W_ ⟨rfl, hW_⟩
   have hW_ := hW_.symm
   subst hW_
   go_wp2_with fail
   refine (q3 _ f_Y1.out).mono ?_
   rintro e W_ ⟨rfl, hW_⟩
   have hW_ := hW_.symm
   subst hW_
   go_wp2_with fail
   refine (q4 _ f_Y1.out).mono ?_
   rintro e W2 ⟨v_t, rfl, o_t2, b2⟩
   obtain ⟨ao_t, L_t, cap_t, rfl, hL_t, hM_t⟩ := o_t2.form
   have o_t2 : Hid (Own W2 W1.heap.size W2.heap.size 9 (.slice ao_t L_t cap_t) (ss l4)) := o_t2
   clear hL_t hM_t
   have z2 : W1.heap.size ≤ W2.heap.size := b2.size
   have B2 : Hid (Below w.heap.size w W2) := B1.out.trans (b2.mono B1.out.size)
   have r_res2 : Hid (W2.heap[w.heap.size]? = some (.cells #[.int .i64 0, .string ⟨#[]⟩] 28 (0, 0))) := rowKeep r_res1.out b2
   clear r_res1
   have f_Y2 : Hid (Sl W2 (.slice (some ⟨b, off + q, none⟩) m (cap0 - q)) (bs Y)) := Sl.later f_Y1.out b2
   clear f_Y1
   clear q2 q3 q4
   have hLt : L_t ≤ l4.length ∧ l4.length ≤ L_t := by obtain ⟨a9, L9, c9, he, h1, h2⟩ := Mem.Own.form o_t2.out; injection he with _ he2 _; rw [ss_len] at h1 h2; omega
   obtain ⟨W3, HW3, b3, y3, hS3, r_h3⟩ : ∃ X, Hid ((W2.alloc (.cells #[.int .i64 n2, .string s3] 28)) = X) ∧ Below W2.heap.size W2 X ∧ W2.heap.size + 1 ≤ X.heap.size ∧ Hid (X.heap.size = W2.heap.size + 1) ∧ Hid (X.heap[W2.heap.size]? = some (.cells #[.int .i64 n2, .string s3] 28 (0, 0))) := ⟨_, rfl, ((Below.refl _ _).alloc (Nat.le_refl _) _), by simp, by show _ = _; simp, (by show _ = _; exact alloc_nth1_0 W2 _)⟩
   have z3 : W2.heap.size ≤ W3.heap.size := b3.size
   have B3 : Hid (Below w.heap.size w W3) := B2.out.trans (b3.mono B2.out.size)
   have r_res3 : Hid (W3.heap[w.heap.size]? = some (.cells #[.int .i64 0, .string ⟨#[]⟩] 28 (0, 0))) := rowKeep r_res2.out b3
   have o_t3 : Hid (Own W3 (W1.heap.size) (W2.heap.size) 9 (.slice ao_t L_t cap_t) (ss l4)) := Own.later o_t2.out b3 (by omega)
   have c_h3_0 : W3.cell? ⟨W2.heap.size, 0, none⟩ = some (.int .i64 n2) := row_at r_h3.out 0
   have c_h3_1 : W3.cell? ⟨W2.heap.size, 1, none⟩ = some (.string s3) := row_at r_h3.out 1
   clear r_res2 o_t2
   have f_Y3 : Hid (Sl W3 (.slice (some ⟨b, off + q, none⟩) m (cap0 - q)) (bs Y)) := Sl.later f_Y2.out b3
   clear f_Y2
   obtain ⟨d1, d2, d3⟩ := dig4 Y
   have qd : ∀ W v1, Sl W v1 (bs Y) → _ := fun W v1 h1 => digest_spec W v1 Y h1 HYB.out (by omega)
   obtain ⟨D, hD⟩ : ∃ D, Plain.txt (digest Y) = D := ⟨_, rfl⟩
   rw [hD] at d1 d2 d3
   simp only [hD] at qd
   have dd : ¬ ((D.size : Int) < 4) := by omega
   obtain ⟨D4, hD4⟩ : ∃ T, D.extract 0 4 = T := ⟨_, rfl⟩
   rw [hD4] at d2 d3
   have HD4 : Hid (sb D4 = sum4 Y) := d3
   clear d1 d2 d3 hD
   have qh : ∀ W, _ := fun W => ok_spec W (⟨n2, s3⟩ : Hd)
   simp only at qh
   have HIF : Hid (¬ (ok2 = true ∧ ok3 = true ∧ ok4 = true ∧ p4 = (Y.length : Int) ∧ okH ⟨n2, s3⟩ = true ∧ ¬ l4.length = 0) → getC xs a = no12 a) := by
    intro hnot
    unfold getC
    rw [HG.out, if_pos ⟨rfl, hcc⟩]
    simp only [Int.toNat_natCast]
    rw [HYY.out]
    have hno : inBody Y = none := by
     unfold inBody
     rw [HG2.out]
     simp only
     rw [HG3.out]
     simp only
     rw [HG4.out]
     exact if_neg hnot
    rw [hno]
   have HIY : Hid (ok2 = true → ok3 = true → ok4 = true → p4 = (Y.length : Int) → okH ⟨n2, s3⟩ = true → ¬ l4.length = 0 → getC xs a = if T = D4 then (⟨n2, s3⟩, l4, (J : Int), true) else no12 a) := by
    intro h1 h2 h3 h4 h5 h6
    unfold getC
    rw [HG.out, if_pos ⟨rfl, hcc⟩]
    simp only [Int.toNat_natCast]
    rw [HYY.out]
    have hyes : inBody Y = some (⟨n2, s3⟩, l4) := by
     unfold inBody
     rw [HG2.out]
     simp only
     rw [HG3.out]
     simp only
     rw [HG4.out]
     exact if_pos ⟨h1, h2, h3, h4, h5, h6⟩
    rw [hyes]
    simp only
    have e4 : (xs.drop (q + m)).take 4 = sb T := by rw [HKJ.out.1]; rw [← HTT.out, sb_txt (fun y hy => HBY.out y (List.mem_of_mem_drop (List.mem_of_mem_take hy)))]
    by_cases hTD : T = D4
    ·
     rw [if_pos hTD, if_pos (by rw [e4, hTD, HD4.out])]
     simp only [Prod.mk.injEq, true_and, and_true]
     have := HIK.out
     omega
    ·
     rw [if_neg hTD, if_neg]
     intro he
     rw [e4, ← HD4.out] at he
     exact hTD (sb_inj12 he)
   obtain ⟨E, hE⟩ : ∃ E, okH ⟨n2, s3⟩ = E := ⟨_, rfl⟩
   simp only [hE] at qh
   have HE : Hid (okH ⟨n2, s3⟩ = E) := hE
   clear hE
   go_wp2_with fail
   rw [HW3.out]
   have wr1 : IntKind.i64.wrap ((q : Int) + (m : Int)) = (K : Int) := by have := HIK.out; rw [IntKind.wrap_i64]; omega
   have wr2 : IntKind.i64.wrap ((K : Int) + 4) = (J : Int) := by have := HIK.out; rw [IntKind.wrap_i64]; omega
   have wr3 : (J : Int) ≤ (cap0 : Int) := by have := HIK.out; omega
   have wr5 : ¬ cap0 = K := by have := HKJ.out; omega
   have wr6 : J - K = 4 := by have := HKJ.out; omega
   have wr7 : (K : Int) ≤ (J : Int) := by have := HIK.out; omega
   cases ok2
   ·
    refine wp_region_held_drew (S := fun w' => w'.cell? ⟨W2.heap.size, 0, none⟩ = some (.int .i64 n2) ∧ w'.cell? ⟨W2.heap.size, 1, none⟩ = some (.string s3) ∧ (convert 22 9 (.slice (some ⟨b, off + K, none⟩) 4 (cap0 - K))).run Tryz.prog w' = .ok (.string T) w') (by kernel_rfl) ⟨c_h3_0, c_h3_1, HCV.out _ (Below.drew B3.out)⟩ (fun hHeld => ?_)
    (refine wpAnyH_take (i := 0) (v := ?v0x1) rfl (by kernel_rfl) (by kernel_rfl) (by kernel_rfl) (fun _ _ _ h => h) (Or.inl ⟨by rfl, ?hy0x1⟩) (by assumption) ?rest0x1; case hy0x1 => (intro w hSw; (try dsimp only at hSw); go_split_ands; go_simp; (try with_reducible rfl)))
    try simp only [Act.put, pu1, pu2, pu3, pu4, pu5, pu6]
    (refine wpAnyH_take (i := 1) (v := ?v1x2) rfl (by kernel_rfl) (by kernel_rfl) (by kernel_rfl) (fun _ _ _ h => h) (Or.inl ⟨by rfl, ?hy1x2⟩) (by assumption) ?rest1x2; case hy1x2 => (intro w hSw; (try dsimp only at hSw); go_split_ands; go_simp; (try with_reducible rfl)))
    try simp only [Act.put, pu1, pu2, pu3, pu4, pu5, pu6]
    (refine wpAnyH_take (i := 2) (v := ?v2x3) rfl (by kernel_rfl) (by kernel_rfl) (by kernel_rfl) (fun _ _ _ h => h) (Or.inl ⟨by rfl, ?hy2x3⟩) (by assumption) ?rest2x3; case hy2x3 => (intro w hSw; (try dsimp only at hSw); go_split_ands; go_simp; (try with_reducible rfl)))
    try simp only [Act.put, pu1, pu2, pu3, pu4, pu5, pu6]
    (refine wpAnyH_take (i := 3) (v := undef) rfl (by kernel_rfl) (by kernel_rfl) (by kernel_rfl) (fun _ _ _ h => h) (Or.inr ⟨by rfl, rfl⟩) (by assumption) ?_)
    try simp only [Act.put, pu1, pu2, pu3, pu4, pu5, pu6]
    (refine wpAnyH_take (i := 4) (v := undef) rfl (by kernel_rfl) (by kernel_rfl) (by kernel_rfl) (fun _ _ _ h => h) (Or.inr ⟨by rfl, rfl⟩) (by assumption) ?_)
    try simp only [Act.put, pu1, pu2, pu3, pu4, pu5, pu6]
    (refine wpAnyH_take (i := 5) (v := ?v5x6) rfl (by kernel_rfl) (by kernel_rfl) (by kernel_rfl) (fun _ _ _ h => h) (Or.inl ⟨by rfl, ?hy5x6⟩) (by assumption) ?rest5x6; case hy5x6 => (intro w hSw; (try dsimp only at hSw); go_split_ands; go_simp; (try with_reducible rfl)))
    try simp only [Act.put, pu1, pu2, pu3, pu4, pu5, pu6]
    (refine wpAnyH_take (i := 6) (v := ?v6x7) rfl (by kernel_rfl) (by kernel_rfl) (by kernel_rfl) (fun _ _ _ h => h) (Or.inl ⟨by rfl, ?hy6x7⟩) (by assumption) ?rest6x7; case hy6x7 => (intro w hSw; (try dsimp only at hSw); go_split_ands; go_simp; (try with_reducible rfl)))
    try simp only [Act.put, pu1, pu2, pu3, pu4, pu5, pu6]
    (refine wpAnyH_take (i := 7) (v := undef) rfl (by kernel_rfl) (by kernel_rfl) (by kernel_rfl) (fun _ _ _ h => h) (Or.inr ⟨by rfl, rfl⟩) (by assumption) ?_)
    try simp only [Act.put, pu1, pu2, pu3, pu4, pu5, pu6]
    (refine wpAnyH_take (i := 8) (v := undef) rfl (by kernel_rfl) (by kernel_rfl) (by kernel_rfl) (fun _ _ _ h => h) (Or.inr ⟨by rfl, rfl⟩) (by assumption) ?_)
    try simp only [Act.put, pu1, pu2, pu3, pu4, pu5, pu6]
    (refine wpAnyH_take (i := 9) (v := ?v9x10) rfl (by kernel_rfl) (by kernel_rfl) (by kernel_rfl) (fun _ _ _ h => h) (Or.inl ⟨by rfl, ?hy9x10⟩) (by assumption) ?rest9x10; case hy9x10 => (intro w hSw; (try dsimp only at hSw); go_split_ands; go_simp; (try with_reducible rfl)))
    try simp only [Act.put, pu1, pu2, pu3, pu4, pu5, pu6]
    (refine wpAnyH_take (i := 10) (v := ?v10x11) rfl (by kernel_rfl) (by kernel_rfl) (by kernel_rfl) (fun _ _ _ h => h) (Or.inl ⟨by rfl, ?hy10x11⟩) (by assumption) ?rest10x11; case hy10x11 => (intro w hSw; (try dsimp only at hSw); go_split_ands; go_simp; (try with_reducible rfl)))
    try simp only [Act.put, pu1, pu2, pu3, pu4, pu5, pu6]
    (refine wpAnyH_take (i := 11) (v := undef) rfl (by kernel_rfl) (by kernel_rfl) (by kernel_rfl) (fun _ _ _ h => h) (Or.inr ⟨by rfl, rfl⟩) (by assumption) ?_)
    try simp only [Act.put, pu1, pu2, pu3, pu4, pu5, pu6]
    (refine wpAnyH_take (i := 12) (v := undef) rfl (by kernel_rfl) (by kernel_rfl) (by kernel_rfl) (fun _ _ _ h => h) (Or.inr ⟨by rfl, rfl⟩) (by assumption) ?_)
    try simp only [Act.put, pu1, pu2, pu3, pu4, pu5, pu6]
    (refine wpAnyH_take (i := 13) (v := undef) rfl (by kernel_rfl) (by kernel_rfl) (by kernel_rfl) (fun _ _ _ h => h) (Or.inr ⟨by rfl, rfl⟩) (by assumption) ?_)
    try simp only [Act.put, pu1, pu2, pu3, pu4, pu5, pu6]
    (refine wpAnyH_take (i := 14) (v := undef) rfl (by kernel_rfl) (by kernel_rfl) (by kernel_rfl) (fun _ _ _ h => h) (Or.inr ⟨by rfl, rfl⟩) (by assumption) ?_)
    try simp only [Act.put, pu1, pu2, pu3, pu4, pu5, pu6]
    (refine wpAnyH_take (i := 15) (v := ?v15x16) rfl (by kernel_rfl) (by kernel_rfl) (by kernel_rfl) (fun _ _ _ h => h) (Or.inl ⟨by rfl, ?hy15x16⟩) (by assumption) ?rest15x16; case hy15x16 => (intro w hSw; (try dsimp only at hSw); go_split_ands; go_simp; (try with_reducible rfl)))
    try simp only [Act.put, pu1, pu2, pu3, pu4, pu5, pu6]
    (refine wpAnyH_take (i := 16) (v := ?v16x17) rfl (by kernel_rfl) (by kernel_rfl) (by kernel_rfl) (fun _ _ _ h => h) (Or.inl ⟨by rfl, ?hy16x17⟩) (by assumption) ?rest16x17; case hy16x17 => (intro w hSw; (try dsimp only at hSw); go_split_ands; go_simp; (try with_reducible rfl)))
    try simp only [Act.put, pu1, pu2, pu3, pu4, pu5, pu6]
    (refine wpAnyH_take (i := 17) (v := undef) rfl (by kernel_rfl) (by kernel_rfl) (by kernel_rfl) (fun _ _ _ h => h) (Or.inr ⟨by rfl, rfl⟩) (by assumption) ?_)
    try simp only [Act.put, pu1, pu2, pu3, pu4, pu5, pu6]
    (refine wpAnyH_take (i := 18) (v := undef) rfl (by kernel_rfl) (by kernel_rfl) (by kernel_rfl) (fun _ _ _ h => h) (Or.inr ⟨by rfl, rfl⟩) (by assumption) ?_)
    try simp only [Act.put, pu1, pu2, pu3, pu4, pu5, pu6]
    (refine wpAnyH_take (i := 19) (v := undef) rfl (by kernel_rfl) (by kernel_rfl) (by kernel_rfl) (fun _ _ _ h => h) (Or.inr ⟨by rfl, rfl⟩) (by assumption) ?_)
    try simp only [Act.put, pu1, pu2, pu3, pu4, pu5, pu6]
    (refine wpAnyH_take (i := 20) (v := ?v20x21) rfl (by kernel_rfl) (by kernel_rfl) (by kernel_rfl) (fun _ _ _ h => h) (Or.inl ⟨by rfl, ?hy20x21⟩) (by assumption) ?rest20x21; case hy20x21 => (intro w hSw; (try dsimp only at hSw); go_split_ands; go_simp; (try with_reducible rfl)))
    try simp only [Act.put, pu1, pu2, pu3, pu4, pu5, pu6]
    (refine wpAnyH_take (i := 21) (v := ?v21x22) rfl (by kernel_rfl) (by kernel_rfl) (by kernel_rfl) (fun _ _ _ h => h) (Or.inl ⟨by rfl, ?hy21x22⟩) (by assumption) ?rest21x22; case hy21x22 => (intro w hSw; (try dsimp only at hSw); go_split_ands; go_simp; (try with_reducible rfl)))
    try simp only [Act.put, pu1, pu2, pu3, pu4, pu5, pu6]
    (refine wpAnyH_take (i := 22) (v := undef) rfl (by kernel_rfl) (by kernel_rfl) (by kernel_rfl) (fun _ _ _ h => h) (Or.inr ⟨by rfl, rfl⟩) (by assumption) ?_)
    try simp only [Act.put, pu1, pu2, pu3, pu4, pu5, pu6]
    (refine wpAnyH_take (i := 23) (v := undef) rfl (by kernel_rfl) (by kernel_rfl) (by kernel_rfl) (fun _ _ _ h => h) (Or.inr ⟨by rfl, rfl⟩) (by assumption) ?_)
    try simp only [Act.put, pu1, pu2, pu3, pu4, pu5, pu6]
    (refine wpAnyH_take (i := 24) (v := undef) rfl (by kernel_rfl) (by kernel_rfl) (by kernel_rfl) (fun _ _ _ h => h) (Or.inr ⟨by rfl, rfl⟩) (by assumption) ?_)
    try simp only [Act.put, pu1, pu2, pu3, pu4, pu5, pu6]
    (refine wpAnyH_take (i := 25) (v := ?v25x26) rfl (by kernel_rfl) (by kernel_rfl) (by kernel_rfl) (fun _ _ _ h => h) (Or.inl ⟨by rfl, ?hy25x26⟩) (by assumption) ?rest25x26; case hy25x26 => (intro w hSw; (try dsimp only at hSw); go_split_ands; go_simp; (try with_reducible rfl)))
    try simp only [Act.put, pu1, pu2, pu3, pu4, pu5, pu6]
    (refine wpAnyH_take (i := 26) (v := ?v26x27) rfl (by kernel_rfl) (by kernel_rfl) (by kernel_rfl) (fun _ _ _ h => h) (Or.inl ⟨by rfl, ?hy26x27⟩) (by assumption) ?rest26x27; case hy26x27 => (intro w hSw; (try dsimp only at hSw); go_split_ands; go_simp; (try with_reducible rfl)))
    try simp only [Act.put, pu1, pu2, pu3, pu4, pu5, pu6]
    (refine wpAnyH_take (i := 27) (v := undef) rfl (by kernel_rfl) (by kernel_rfl) (by kernel_rfl) (fun _ _ _ h => h) (Or.inr ⟨by rfl, rfl⟩) (by assumption) ?_)
    try simp only [Act.put, pu1, pu2, pu3, pu4, pu5, pu6]
    (refine wpAnyH_take (i := 28) (v := undef) rfl (by kernel_rfl) (by kernel_rfl) (by kernel_rfl) (fun _ _ _ h => h) (Or.inr ⟨by rfl, rfl⟩) (by assumption) ?_)
    try simp only [Act.put, pu1, pu2, pu3, pu4, pu5, pu6]
    (refine wpAnyH_take (i := 29) (v := undef) rfl (by kernel_rfl) (by kernel_rfl) (by kernel_rfl) (fun _ _ _ h => h) (Or.inr ⟨by rfl, rfl⟩) (by assumption) ?_)
    try simp only [Act.put, pu1, pu2, pu3, pu4, pu5, pu6]
    (refine wpAnyH_take (i := 30) (v := undef) rfl (by kernel_rfl) (by kernel_rfl) (by kernel_rfl) (fun _ _ _ h => h) (Or.inr ⟨by rfl, rfl⟩) (by assumption) ?_)
    try simp only [Act.put, pu1, pu2, pu3, pu4, pu5, pu6]
    (refine wpAnyH_take (i := 31) (v := undef) rfl (by kernel_rfl) (by kernel_rfl) (by kernel_rfl) (fun _ _ _ h => h) (Or.inr ⟨by rfl, rfl⟩) (by assumption) ?_)
    try simp only [Act.put, pu1, pu2, pu3, pu4, pu5, pu6]
    (refine wpAnyH_take (i := 32) (v := undef) rfl (by kernel_rfl) (by kernel_rfl) (by kernel_rfl) (fun _ _ _ h => h) (Or.inr ⟨by rfl, rfl⟩) (by assumption) ?_)
    try simp only [Act.put, pu1, pu2, pu3, pu4, pu5, pu6]
    (refine wpAnyH_take (i := 33) (v := undef) rfl (by kernel_rfl) (by kernel_rfl) (by kernel_rfl) (fun _ _ _ h => h) (Or.inr ⟨by rfl, rfl⟩) (by assumption) ?_)
    try simp only [Act.put, pu1, pu2, pu3, pu4, pu5, pu6]
    (refine wpAnyH_take (i := 34) (v := undef) rfl (by kernel_rfl) (by kernel_rfl) (by kernel_rfl) (fun _ _ _ h => h) (Or.inr ⟨by rfl, rfl⟩) (by assumption) ?_)
    try simp only [Act.put, pu1, pu2, pu3, pu4, pu5, pu6]
    (refine wpAnyH_take (i := 35) (v := undef) rfl (by kernel_rfl) (by kernel_rfl) (by kernel_rfl) (fun _ _ _ h => h) (Or.inr ⟨by rfl, rfl⟩) (by assumption) ?_)
    try simp only [Act.put, pu1, pu2, pu3, pu4, pu5, pu6]
    (refine wpAnyH_take (i := 36) (v := undef) rfl (by kernel_rfl) (by kernel_rfl) (by kernel_rfl) (fun _ _ _ h => h) (Or.inr ⟨by rfl, rfl⟩) (by assumption) ?_)
    try simp only [Act.put, pu1, pu2, pu3, pu4, pu5, pu6]
    (refine wpAnyH_take (i := 37) (v := undef) rfl (by kernel_rfl) (by kernel_rfl) (by kernel_rfl) (fun _ _ _ h => h) (Or.inr ⟨by rfl, rfl⟩) (by assumption) ?_)
    try simp only [Act.put, pu1, pu2, pu3, pu4, pu5, pu6]
    (refine wpAnyH_take (i := 38) (v := undef) rfl (by kernel_rfl) (by kernel_rfl) (by kernel_rfl) (fun _ _ _ h => h) (Or.inr ⟨by rfl, rfl⟩) (by assumption) ?_)
    try simp only [Act.put, pu1, pu2, pu3, pu4, pu5, pu6]
    (refine wpAnyH_take (i := 39) (v := undef) rfl (by kernel_rfl) (by kernel_rfl) (by kernel_rfl) (fun _ _ _ h => h) (Or.inr ⟨by rfl, rfl⟩) (by assumption) ?_)
    try simp only [Act.put, pu1, pu2, pu3, pu4, pu5, pu6]
    (refine wpAnyH_take (i := 40) (v := undef) rfl (by kernel_rfl) (by kernel_rfl) (by kernel_rfl) (fun _ _ _ h => h) (Or.inr ⟨by rfl, rfl⟩) (by assumption) ?_)
    try simp only [Act.put, pu1, pu2, pu3, pu4, pu5, pu6]
    (refine wpAnyH_take (i := 41) (v := ?v41x42) rfl (by kernel_rfl) (by kernel_rfl) (by kernel_rfl) (fun _ _ _ h => h) (Or.inl ⟨by rfl, ?hy41x42⟩) (by assumption) ?rest41x42; case hy41x42 => (intro w hSw; (try dsimp only at hSw); go_split_ands; go_simp; (try with_reducible rfl)))
    try simp only [Act.put, pu1, pu2, pu3, pu4, pu5, pu6]
    refine wpAnyH_done (by kernel_rfl) ?_ _
    clear hHeld
    obtain ⟨W4, HW4, b4⟩ : ∃ X, Hid (W3.drew = X) ∧ Below W3.heap.size W3 X := ⟨_, rfl, Below.drew (Below.refl _ _)⟩
    rw [HW4.out]
    have z4 : W3.heap.size ≤ W4.heap.size := b4.size
    have B4 : Hid (Below w.heap.size w W4) := B3.out.trans (b4.mono B3.out.size)
    have r_res4 : Hid (W4.heap[w.heap.size]? = some (.cells #[.int .i64 0, .string ⟨#[]⟩] 28 (0, 0))) := rowKeep r_res3.out b4
    clear r_res3 r_h3 c_h3_0 c_h3_1 o_t3
    clear f_Y3
    have HN : Hid (G = no12 a) := by show _ = _; rw [← HGG.out]; exact HIF.out (by rintro ⟨h1, h2, h3, h4, h5, h6⟩; simp at h1)
    obtain ⟨W5, HW5, b5, o_z5⟩ : ∃ X, Hid ((W4.alloc (.cells #[] 9)) = X) ∧ Below W4.heap.size W4 X ∧ Hid (Own X W4.heap.size X.heap.size 9 (.slice (some ⟨W4.heap.size, 0, none⟩) 0 0) (ss [])) := ⟨_, rfl, (Below.refl _ _).alloc (Nat.le_refl _) _, emptyT W4 W4.heap.size (Nat.le_refl _)⟩
    have B5 : Hid (Below w.heap.size w W5) := B4.out.trans (b5.mono B4.out.size)
    have r_res5 : Hid (W5.heap[w.heap.size]? = some (.cells #[.int .i64 0, .string ⟨#[]⟩] 28 (0, 0))) := rowKeep r_res4.out b5
    clear r_res4
    go_wp2_with ((try rw [HW5.out]); refine wpList_store_row rfl 28 _ _ rfl (w.heap.size) (hc hd0) rfl rfl 28 _ r_res5.out (sizeH _) rfl (oneH _) ?_)
    refine bodyPost_ret (res_r3 rfl _ _ (w.heap.size) 28 (hc hd0) (0, 0) _ rfl (setRow_heap _ _ _ _ _ (0, 0) r_res5.out) Tryz.underlying28 rfl (sizeH _)) rfl ⟨.slice (some ⟨W4.heap.size, 0, none⟩) 0 0, by rw [HN.out]; rfl, ?_, below_setRow B5.out (by omega) _⟩
    rw [HN.out]
    exact (Own.setRow o_z5.out _ (by omega)).mono (by omega) (by rw [size_setRow]; omega)
   ·
    cases ok3
    ·
     refine wp_region_held_drew (S := fun w' => w'.cell? ⟨W2.heap.size, 0, none⟩ = some (.int .i64 n2) ∧ w'.cell? ⟨W2.heap.size, 1, none⟩ = some (.string s3) ∧ (convert 22 9 (.slice (some ⟨b, off + K, none⟩) 4 (cap0 - K))).run Tryz.prog w' = .ok (.string T) w') (by kernel_rfl) ⟨c_h3_0, c_h3_1, HCV.out _ (Below.drew B3.out)⟩ (fun hHeld => ?_)
     (refine wpAnyH_take (i := 0) (v := ?v0x43) rfl (by kernel_rfl) (by kernel_rfl) (by kernel_rfl) (fun _ _ _ h => h) (Or.inl ⟨by rfl, ?hy0x43⟩) (by assumption) ?rest0x43; case hy0x43 => (intro w hSw; (try dsimp only at hSw); go_split_ands; go_simp; (try with_reducible rfl)))
     try simp only [Act.put, pu1, pu2, pu3, pu4, pu5, pu6]
     (refine wpAnyH_take (i := 1) (v := ?v1x44) rfl (by kernel_rfl) (by kernel_rfl) (by kernel_rfl) (fun _ _ _ h => h) (Or.inl ⟨by rfl, ?hy1x44⟩) (by assumption) ?rest1x44; case hy1x44 => (intro w hSw; (try dsimp only at hSw); go_split_ands; go_simp; (try with_reducible rfl)))
     try simp only [Act.put, pu1, pu2, pu3, pu4, pu5, pu6]
     (refine wpAnyH_take (i := 2) (v := ?v2x45) rfl (by kernel_rfl) (by kernel_rfl) (by kernel_rfl) (fun _ _ _ h => h) (Or.inl ⟨by rfl, ?hy2x45⟩) (by assumption) ?rest2x45; case hy2x45 => (intro w hSw; (try dsimp only at hSw); go_split_ands; go_simp; (try with_reducible rfl)))
     try simp only [Act.put, pu1, pu2, pu3, pu4, pu5, pu6]
     (refine wpAnyH_take (i := 3) (v := ?v3x46) rfl (by kernel_rfl) (by kernel_rfl) (by kernel_rfl) (fun _ _ _ h => h) (Or.inl ⟨by rfl, ?hy3x46⟩) (by assumption) ?rest3x46; case hy3x46 => (intro w hSw; (try dsimp only at hSw); go_split_ands; go_simp; (try with_reducible rfl)))
     try simp only [Act.put, pu1, pu2, pu3, pu4, pu5, pu6]
     (refine wpAnyH_take (i := 4) (v := ?v4x47) rfl (by kernel_rfl) (by kernel_rfl) (by kernel_rfl) (fun _ _ _ h => h) (Or.inl ⟨by rfl, ?hy4x47⟩) (by assumption) ?rest4x47; case hy4x47 => (intro w hSw; (try dsimp only at hSw); go_split_ands; go_simp; (try with_reducible rfl)))
     try simp only [Act.put, pu1, pu2, pu3, pu4, pu5, pu6]
     (refine wpAnyH_take (i := 5) (v := ?v5x48) rfl (by kernel_rfl) (by kernel_rfl) (by kernel_rfl) (fun _ _ _ h => h) (Or.inl ⟨by rfl, ?hy5x48⟩) (by assumption) ?rest5x48; case hy5x48 => (intro w hSw; (try dsimp only at hSw); go_split_ands; go_simp; (try with_reducible rfl)))
     try simp only [Act.put, pu1, pu2, pu3, pu4, pu5, pu6]
     (refine wpAnyH_take (i := 6) (v := ?v6x49) rfl (by kernel_rfl) (by kernel_rfl) (by kernel_rfl) (fun _ _ _ h => h) (Or.inl ⟨by rfl, ?hy6x49⟩) (by assumption) ?rest6x49; case hy6x49 => (intro w hSw; (try dsimp only at hSw); go_split_ands; go_simp; (try with_reducible rfl)))
     try simp only [Act.put, pu1, pu2, pu3, pu4, pu5, pu6]
     (refine wpAnyH_take (i := 7) (v := undef) rfl (by kernel_rfl) (by kernel_rfl) (by kernel_rfl) (fun _ _ _ h => h) (Or.inr ⟨by rfl, rfl⟩) (by assumption) ?_)
     try simp only [Act.put, pu1, pu2, pu3, pu4, pu5, pu6]
     (refine wpAnyH_take (i := 8) (v := undef) rfl (by kernel_rfl) (by kernel_rfl) (by kernel_rfl) (fun _ _ _ h => h) (Or.inr ⟨by rfl, rfl⟩) (by assumption) ?_)
     try simp only [Act.put, pu1, pu2, pu3, pu4, pu5, pu6]
     (refine wpAnyH_take (i := 9) (v := ?v9x52) rfl (by kernel_rfl) (by kernel_rfl) (by kernel_rfl) (fun _ _ _ h => h) (Or.inl ⟨by rfl, ?hy9x52⟩) (by assumption) ?rest9x52; case hy9x52 => (intro w hSw; (try dsimp only at hSw); go_split_ands; go_simp; (try with_reducible rfl)))
     try simp only [Act.put, pu1, pu2, pu3, pu4, pu5, pu6]
     (refine wpAnyH_take (i := 10) (v := ?v10x53) rfl (by kernel_rfl) (by kernel_rfl) (by kernel_rfl) (fun _ _ _ h => h) (Or.inl ⟨by rfl, ?hy10x53⟩) (by assumption) ?rest10x53; case hy10x53 => (intro w hSw; (try dsimp only at hSw); go_split_ands; go_simp; (try with_reducible rfl)))
     try simp only [Act.put, pu1, pu2, pu3, pu4, pu5, pu6]
     (refine wpAnyH_take (i := 11) (v := undef) rfl (by kernel_rfl) (by kernel_rfl) (by kernel_rfl) (fun _ _ _ h => h) (Or.inr ⟨by rfl, rfl⟩) (by assumption) ?_)
     try simp only [Act.put, pu1, pu2, pu3, pu4, pu5, pu6]
     (refine wpAnyH_take (i := 12) (v := undef) rfl (by kernel_rfl) (by kernel_rfl) (by kernel_rfl) (fun _ _ _ h => h) (Or.inr ⟨by rfl, rfl⟩) (by assumption) ?_)
     try simp only [Act.put, pu1, pu2, pu3, pu4, pu5, pu6]
     (refine wpAnyH_take (i := 13) (v := undef) rfl (by kernel_rfl) (by kernel_rfl) (by kernel_rfl) (fun _ _ _ h => h) (Or.inr ⟨by rfl, rfl⟩) (by assumption) ?_)
     try simp only [Act.put, pu1, pu2, pu3, pu4, pu5, pu6]
     (refine wpAnyH_take (i := 14) (v := undef) rfl (by kernel_rfl) (by kernel_rfl) (by kernel_rfl) (fun _ _ _ h => h) (Or.inr ⟨by rfl, rfl⟩) (by assumption) ?_)
     try simp only [Act.put, pu1, pu2, pu3, pu4, pu5, pu6]
     (refine wpAnyH_take (i := 15) (v := ?v15x58) rfl (by kernel_rfl) (by kernel_rfl) (by kernel_rfl) (fun _ _ _ h => h) (Or.inl ⟨by rfl, ?hy15x58⟩) (by assumption) ?rest15x58; case hy15x58 => (intro w hSw; (try dsimp only at hSw); go_split_ands; go_simp; (try with_reducible rfl)))
     try simp only [Act.put, pu1, pu2, pu3, pu4, pu5, pu6]
     (refine wpAnyH_take (i := 16) (v := ?v16x59) rfl (by kernel_rfl) (by kernel_rfl) (by kernel_rfl) (fun _ _ _ h => h) (Or.inl ⟨by rfl, ?hy16x59⟩) (by assumption) ?rest16x59; case hy16x59 => (intro w hSw; (try dsimp only at hSw); go_split_ands; go_simp; (try with_reducible rfl)))
     try simp only [Act.put, pu1, pu2, pu3, pu4, pu5, pu6]
     (refine wpAnyH_take (i := 17) (v := undef) rfl (by kernel_rfl) (by kernel_rfl) (by kernel_rfl) (fun _ _ _ h => h) (Or.inr ⟨by rfl, rfl⟩) (by assumption) ?_)
     try simp only [Act.put, pu1, pu2, pu3, pu4, pu5, pu6]
     (refine wpAnyH_take (i := 18) (v := undef) rfl (by kernel_rfl) (by kernel_rfl) (by kernel_rfl) (fun _ _ _ h => h) (Or.inr ⟨by rfl, rfl⟩) (by assumption) ?_)
     try simp only [Act.put, pu1, pu2, pu3, pu4, pu5, pu6]
     (refine wpAnyH_take (i := 19) (v := undef) rfl (by kernel_rfl) (by kernel_rfl) (by kernel_rfl) (fun _ _ _ h => h) (Or.inr ⟨by rfl, rfl⟩) (by assumption) ?_)
     try simp only [Act.put, pu1, pu2, pu3, pu4, pu5, pu6]
     (refine wpAnyH_take (i := 20) (v := ?v20x63) rfl (by kernel_rfl) (by kernel_rfl) (by kernel_rfl) (fun _ _ _ h => h) (Or.inl ⟨by rfl, ?hy20x63⟩) (by assumption) ?rest20x63; case hy20x63 => (intro w hSw; (try dsimp only at hSw); go_split_ands; go_simp; (try with_reducible rfl)))
     try simp only [Act.put, pu1, pu2, pu3, pu4, pu5, pu6]
     (refine wpAnyH_take (i := 21) (v := ?v21x64) rfl (by kernel_rfl) (by kernel_rfl) (by kernel_rfl) (fun _ _ _ h => h) (Or.inl ⟨by rfl, ?hy21x64⟩) (by assumption) ?rest21x64; case hy21x64 => (intro w hSw; (try dsimp only at hSw); go_split_ands; go_simp; (try with_reducible rfl)))
     try simp only [Act.put, pu1, pu2, pu3, pu4, pu5, pu6]
     (refine wpAnyH_take (i := 22) (v := undef) rfl (by kernel_rfl) (by kernel_rfl) (by kernel_rfl) (fun _ _ _ h => h) (Or.inr ⟨by rfl, rfl⟩) (by assumption) ?_)
     try simp only [Act.put, pu1, pu2, pu3, pu4, pu5, pu6]
     (refine wpAnyH_take (i := 23) (v := undef) rfl (by kernel_rfl) (by kernel_rfl) (by kernel_rfl) (fun _ _ _ h => h) (Or.inr ⟨by rfl, rfl⟩) (by assumption) ?_)
     try simp only [Act.put, pu1, pu2, pu3, pu4, pu5, pu6]
     (refine wpAnyH_take (i := 24) (v := undef) rfl (by kernel_rfl) (by kernel_rfl) (by kernel_rfl) (fun _ _ _ h => h) (Or.inr ⟨by rfl, rfl⟩) (by assumption) ?_)
     try simp only [Act.put, pu1, pu2, pu3, pu4, pu5, pu6]
     (refine wpAnyH_take (i := 25) (v := ?v25x68) rfl (by kernel_rfl) (by kernel_rfl) (by kernel_rfl) (fun _ _ _ h => h) (Or.inl ⟨by rfl, ?hy25x68⟩) (by assumption) ?rest25x68; case hy25x68 => (intro w hSw; (try dsimp only at hSw); go_split_ands; go_simp; (try with_reducible rfl)))
     try simp only [Act.put, pu1, pu2, pu3, pu4, pu5, pu6]
     (refine wpAnyH_take (i := 26) (v := ?v26x69) rfl (by kernel_rfl) (by kernel_rfl) (by kernel_rfl) (fun _ _ _ h => h) (Or.inl ⟨by rfl, ?hy26x69⟩) (by assumption) ?rest26x69; case hy26x69 => (intro w hSw; (try dsimp only at hSw); go_split_ands; go_simp; (try with_reducible rfl)))
     try simp only [Act.put, pu1, pu2, pu3, pu4, pu5, pu6]
     (refine wpAnyH_take (i := 27) (v := undef) rfl (by kernel_rfl) (by kernel_rfl) (by kernel_rfl) (fun _ _ _ h => h) (Or.inr ⟨by rfl, rfl⟩) (by assumption) ?_)
     try simp only [Act.put, pu1, pu2, pu3, pu4, pu5, pu6]
     (refine wpAnyH_take (i := 28) (v := undef) rfl (by kernel_rfl) (by kernel_rfl) (by kernel_rfl) (fun _ _ _ h => h) (Or.inr ⟨by rfl, rfl⟩) (by assumption) ?_)
     try simp only [Act.put, pu1, pu2, pu3, pu4, pu5, pu6]
     (refine wpAnyH_take (i := 29) (v := undef) rfl (by kernel_rfl) (by kernel_rfl) (by kernel_rfl) (fun _ _ _ h => h) (Or.inr ⟨by rfl, rfl⟩) (by assumption) ?_)
     try simp only [Act.put, pu1, pu2, pu3, pu4, pu5, pu6]
     (refine wpAnyH_take (i := 30) (v := undef) rfl (by kernel_rfl) (by kernel_rfl) (by kernel_rfl) (fun _ _ _ h => h) (Or.inr ⟨by rfl, rfl⟩) (by assumption) ?_)
     try simp only [Act.put, pu1, pu2, pu3, pu4, pu5, pu6]
     (refine wpAnyH_take (i := 31) (v := undef) rfl (by kernel_rfl) (by kernel_rfl) (by kernel_rfl) (fun _ _ _ h => h) (Or.inr ⟨by rfl, rfl⟩) (by assumption) ?_)
     try simp only [Act.put, pu1, pu2, pu3, pu4, pu5, pu6]
     (refine wpAnyH_take (i := 32) (v := undef) rfl (by kernel_rfl) (by kernel_rfl) (by kernel_rfl) (fun _ _ _ h => h) (Or.inr ⟨by rfl, rfl⟩) (by assumption) ?_)
     try simp only [Act.put, pu1, pu2, pu3, pu4, pu5, pu6]
     (refine wpAnyH_take (i := 33) (v := undef) rfl (by kernel_rfl) (by kernel_rfl) (by kernel_rfl) (fun _ _ _ h => h) (Or.inr ⟨by rfl, rfl⟩) (by assumption) ?_)
     try simp only [Act.put, pu1, pu2, pu3, pu4, pu5, pu6]
     (refine wpAnyH_take (i := 34) (v := undef) rfl (by kernel_rfl) (by kernel_rfl) (by kernel_rfl) (fun _ _ _ h => h) (Or.inr ⟨by rfl, rfl⟩) (by assumption) ?_)
     try simp only [Act.put, pu1, pu2, pu3, pu4, pu5, pu6]
     (refine wpAnyH_take (i := 35) (v := undef) rfl (by kernel_rfl) (by kernel_rfl) (by kernel_rfl) (fun _ _ _ h => h) (Or.inr ⟨by rfl, rfl⟩) (by assumption) ?_)
     try simp only [Act.put, pu1, pu2, pu3, pu4, pu5, pu6]
     (refine wpAnyH_take (i := 36) (v := undef) rfl (by kernel_rfl) (by kernel_rfl) (by kernel_rfl) (fun _ _ _ h => h) (Or.inr ⟨by rfl, rfl⟩) (by assumption) ?_)
     try simp only [Act.put, pu1, pu2, pu3, pu4, pu5, pu6]
     (refine wpAnyH_take (i := 37) (v := undef) rfl (by kernel_rfl) (by kernel_rfl) (by kernel_rfl) (fun _ _ _ h => h) (Or.inr ⟨by rfl, rfl⟩) (by assumption) ?_)
     try simp only [Act.put, pu1, pu2, pu3, pu4, pu5, pu6]
     (refine wpAnyH_take (i := 38) (v := undef) rfl (by kernel_rfl) (by kernel_rfl) (by kernel_rfl) (fun _ _ _ h => h) (Or.inr ⟨by rfl, rfl⟩) (by assumption) ?_)
     try simp only [Act.put, pu1, pu2, pu3, pu4, pu5, pu6]
     (refine wpAnyH_take (i := 39) (v := undef) rfl (by kernel_rfl) (by kernel_rfl) (by kernel_rfl) (fun _ _ _ h => h) (Or.inr ⟨by rfl, rfl⟩) (by assumption) ?_)
     try simp only [Act.put, pu1, pu2, pu3, pu4, pu5, pu6]
     (refine wpAnyH_take (i := 40) (v := undef) rfl (by kernel_rfl) (by kernel_rfl) (by kernel_rfl) (fun _ _ _ h => h) (Or.inr ⟨by rfl, rfl⟩) (by assumption) ?_)
     try simp only [Act.put, pu1, pu2, pu3, pu4, pu5, pu6]
     (refine wpAnyH_take (i := 41) (v := ?v41x84) rfl (by kernel_rfl) (by kernel_rfl) (by kernel_rfl) (fun _ _ _ h => h) (Or.inl ⟨by rfl, ?hy41x84⟩) (by assumption) ?rest41x84; case hy41x84 => (intro w hSw; (try dsimp only at hSw); go_split_ands; go_simp; (try with_reducible rfl)))
     try simp only [Act.put, pu1, pu2, pu3, pu4, pu5, pu6]
     refine wpAnyH_done (by kernel_rfl) ?_ _
     clear hHeld
     obtain ⟨W4, HW4, b4⟩ : ∃ X, Hid (W3.drew = X) ∧ Below W3.heap.size W3 X := ⟨_, rfl, Below.drew (Below.refl _ _)⟩
     rw [HW4.out]
     have z4 : W3.heap.size ≤ W4.heap.size := b4.size
     have B4 : Hid (Below w.heap.size w W4) := B3.out.trans (b4.mono B3.out.size)
     have r_res4 : Hid (W4.heap[w.heap.size]? = some (.cells #[.int .i64 0, .string ⟨#[]⟩] 28 (0, 0))) := rowKeep r_res3.out b4
     clear r_res3 r_h3 c_h3_0 c_h3_1 o_t3
     clear f_Y3
     have HN : Hid (G = no12 a) := by show _ = _; rw [← HGG.out]; exact HIF.out (by rintro ⟨h1, h2, h3, h4, h5, h6⟩; simp at h2)
     obtain ⟨W5, HW5, b5, o_z5⟩ : ∃ X, Hid ((W4.alloc (.cells #[] 9)) = X) ∧ Below W4.heap.size W4 X ∧ Hid (Own X W4.heap.size X.heap.size 9 (.slice (some ⟨W4.heap.size, 0, none⟩) 0 0) (ss [])) := ⟨_, rfl, (Below.refl _ _).alloc (Nat.le_refl _) _, emptyT W4 W4.heap.size (Nat.le_refl _)⟩
     have B5 : Hid (Below w.heap.size w W5) := B4.out.trans (b5.mono B4.out.size)
     have r_res5 : Hid (W5.heap[w.heap.size]? = some (.cells #[.int .i64 0, .string ⟨#[]⟩] 28 (0, 0))) := rowKeep r_res4.out b5
     clear r_res4
     go_wp2_with ((try rw [HW5.out]); refine wpList_store_row rfl 28 _ _ rfl (w.heap.size) (hc hd0) rfl rfl 28 _ r_res5.out (sizeH _) rfl (oneH _) ?_)
     refine bodyPost_ret (res_r3 rfl _ _ (w.heap.size) 28 (hc hd0) (0, 0) _ rfl (setRow_heap _ _ _ _ _ (0, 0) r_res5.out) Tryz.underlying28 rfl (sizeH _)) rfl ⟨.slice (some ⟨W4.heap.size, 0, none⟩) 0 0, by rw [HN.out]; rfl, ?_, below_setRow B5.out (by omega) _⟩
     rw [HN.out]
     exact (Own.setRow o_z5.out _ (by omega)).mono (by omega) (by rw [size_setRow]; omega)
    ·
     cases ok4
     ·
      refine wp_region_held_drew (S := fun w' => w'.cell? ⟨W2.heap.size, 0, none⟩ = some (.int .i64 n2) ∧ w'.cell? ⟨W2.heap.size, 1, none⟩ = some (.string s3) ∧ (convert 22 9 (.slice (some ⟨b, off + K, none⟩) 4 (cap0 - K))).run Tryz.prog w' = .ok (.string T) w') (by kernel_rfl) ⟨c_h3_0, c_h3_1, HCV.out _ (Below.drew B3.out)⟩ (fun hHeld => ?_)
      (refine wpAnyH_take (i := 0) (v := ?v0x85) rfl (by kernel_rfl) (by kernel_rfl) (by kernel_rfl) (fun _ _ _ h => h) (Or.inl ⟨by rfl, ?hy0x85⟩) (by assumption) ?rest0x85; case hy0x85 => (intro w hSw; (try dsimp only at hSw); go_split_ands; go_simp; (try with_reducible rfl)))
      try simp only [Act.put, pu1, pu2, pu3, pu4, pu5, pu6]
      (refine wpAnyH_take (i := 1) (v := ?v1x86) rfl (by kernel_rfl) (by kernel_rfl) (by kernel_rfl) (fun _ _ _ h => h) (Or.inl ⟨by rfl, ?hy1x86⟩) (by assumption) ?rest1x86; case hy1x86 => (intro w hSw; (try dsimp only at hSw); go_split_ands; go_simp; (try with_reducible rfl)))
      try simp only [Act.put, pu1, pu2, pu3, pu4, pu5, pu6]
      (refine wpAnyH_take (i := 2) (v := ?v2x87) rfl (by kernel_rfl) (by kernel_rfl) (by kernel_rfl) (fun _ _ _ h => h) (Or.inl ⟨by rfl, ?hy2x87⟩) (by assumption) ?rest2x87; case hy2x87 => (intro w hSw; (try dsimp only at hSw); go_split_ands; go_simp; (try with_reducible rfl)))
      try simp only [Act.put, pu1, pu2, pu3, pu4, pu5, pu6]
      (refine wpAnyH_take (i := 3) (v := ?v3x88) rfl (by kernel_rfl) (by kernel_rfl) (by kernel_rfl) (fun _ _ _ h => h) (Or.inl ⟨by rfl, ?hy3x88⟩) (by assumption) ?rest3x88; case hy3x88 => (intro w hSw; (try dsimp only at hSw); go_split_ands; go_simp; (try with_reducible rfl)))
      try simp only [Act.put, pu1, pu2, pu3, pu4, pu5, pu6]
      (refine wpAnyH_take (i := 4) (v := ?v4x89) rfl (by kernel_rfl) (by kernel_rfl) (by kernel_rfl) (fun _ _ _ h => h) (Or.inl ⟨by rfl, ?hy4x89⟩) (by assumption) ?rest4x89; case hy4x89 => (intro w hSw; (try dsimp only at hSw); go_split_ands; go_simp; (try with_reducible rfl)))
      try simp only [Act.put, pu1, pu2, pu3, pu4, pu5, pu6]
      (refine wpAnyH_take (i := 5) (v := ?v5x90) rfl (by kernel_rfl) (by kernel_rfl) (by kernel_rfl) (fun _ _ _ h => h) (Or.inl ⟨by rfl, ?hy5x90⟩) (by assumption) ?rest5x90; case hy5x90 => (intro w hSw; (try dsimp only at hSw); go_split_ands; go_simp; (try with_reducible rfl)))
      try simp only [Act.put, pu1, pu2, pu3, pu4, pu5, pu6]
      (refine wpAnyH_take (i := 6) (v := ?v6x91) rfl (by kernel_rfl) (by kernel_rfl) (by kernel_rfl) (fun _ _ _ h => h) (Or.inl ⟨by rfl, ?hy6x91⟩) (by assumption) ?rest6x91; case hy6x91 => (intro w hSw; (try dsimp only at hSw); go_split_ands; go_simp; (try with_reducible rfl)))
      try simp only [Act.put, pu1, pu2, pu3, pu4, pu5, pu6]
      (refine wpAnyH_take (i := 7) (v := ?v7x92) rfl (by kernel_rfl) (by kernel_rfl) (by kernel_rfl) (fun _ _ _ h => h) (Or.inl ⟨by rfl, ?hy7x92⟩) (by assumption) ?rest7x92; case hy7x92 => (intro w hSw; (try dsimp only at hSw); go_split_ands; go_simp; (try with_reducible rfl)))
      try simp only [Act.put, pu1, pu2, pu3, pu4, pu5, pu6]
      (refine wpAnyH_take (i := 8) (v := ?v8x93) rfl (by kernel_rfl) (by kernel_rfl) (by kernel_rfl) (fun _ _ _ h => h) (Or.inl ⟨by rfl, ?hy8x93⟩) (by assumption) ?rest8x93; case hy8x93 => (intro w hSw; (try dsimp only at hSw); go_split_ands; go_simp; (try with_reducible rfl)))
      try simp only [Act.put, pu1, pu2, pu3, pu4, pu5, pu6]
      (refine wpAnyH_take (i := 9) (v := ?v9x94) rfl (by kernel_rfl) (by kernel_rfl) (by kernel_rfl) (fun _ _ _ h => h) (Or.inl ⟨by rfl, ?hy9x94⟩) (by assumption) ?rest9x94; case hy9x94 => (intro w hSw; (try dsimp only at hSw); go_split_ands; go_simp; (try with_reducible rfl)))
      try simp only [Act.put, pu1, pu2, pu3, pu4, pu5, pu6]
      (refine wpAnyH_take (i := 10) (v := ?v10x95) rfl (by kernel_rfl) (by kernel_rfl) (by kernel_rfl) (fun _ _ _ h => h) (Or.inl ⟨by rfl, ?hy10x95⟩) (by assumption) ?rest10x95; case hy10x95 => (intro w hSw; (try dsimp only at hSw); go_split_ands; go_simp; (try with_reducible rfl)))
      try simp only [Act.put, pu1, pu2, pu3, pu4, pu5, pu6]
      (refine wpAnyH_take (i := 11) (v := undef) rfl (by kernel_rfl) (by kernel_rfl) (by kernel_rfl) (fun _ _ _ h => h) (Or.inr ⟨by rfl, rfl⟩) (by assumption) ?_)
      try simp only [Act.put, pu1, pu2, pu3, pu4, pu5, pu6]
      (refine wpAnyH_take (i := 12) (v := undef) rfl (by kernel_rfl) (by kernel_rfl) (by kernel_rfl) (fun _ _ _ h => h) (Or.inr ⟨by rfl, rfl⟩) (by assumption) ?_)
      try simp only [Act.put, pu1, pu2, pu3, pu4, pu5, pu6]
      (refine wpAnyH_take (i := 13) (v := undef) rfl (by kernel_rfl) (by kernel_rfl) (by kernel_rfl) (fun _ _ _ h => h) (Or.inr ⟨by rfl, rfl⟩) (by assumption) ?_)
      try simp only [Act.put, pu1, pu2, pu3, pu4, pu5, pu6]
      (refine wpAnyH_take (i := 14) (v := undef) rfl (by kernel_rfl) (by kernel_rfl) (by kernel_rfl) (fun _ _ _ h => h) (Or.inr ⟨by rfl, rfl⟩) (by assumption) ?_)
      try simp only [Act.put, pu1, pu2, pu3, pu4, pu5, pu6]
      (refine wpAnyH_take (i := 15) (v := ?v15x100) rfl (by kernel_rfl) (by kernel_rfl) (by kernel_rfl) (fun _ _ _ h => h) (Or.inl ⟨by rfl, ?hy15x100⟩) (by assumption) ?rest15x100; case hy15x100 => (intro w hSw; (try dsimp only at hSw); go_split_ands; go_simp; (try with_reducible rfl)))
      try simp only [Act.put, pu1, pu2, pu3, pu4, pu5, pu6]
      (refine wpAnyH_take (i := 16) (v := ?v16x101) rfl (by kernel_rfl) (by kernel_rfl) (by kernel_rfl) (fun _ _ _ h => h) (Or.inl ⟨by rfl, ?hy16x101⟩) (by assumption) ?rest16x101; case hy16x101 => (intro w hSw; (try dsimp only at hSw); go_split_ands; go_simp; (try with_reducible rfl)))
      try simp only [Act.put, pu1, pu2, pu3, pu4, pu5, pu6]
      (refine wpAnyH_take (i := 17) (v := undef) rfl (by kernel_rfl) (by kernel_rfl) (by kernel_rfl) (fun _ _ _ h => h) (Or.inr ⟨by rfl, rfl⟩) (by assumption) ?_)
      try simp only [Act.put, pu1, pu2, pu3, pu4, pu5, pu6]
      (refine wpAnyH_take (i := 18) (v := undef) rfl (by kernel_rfl) (by kernel_rfl) (by kernel_rfl) (fun _ _ _ h => h) (Or.inr ⟨by rfl, rfl⟩) (by assumption) ?_)
      try simp only [Act.put, pu1, pu2, pu3, pu4, pu5, pu6]
      (refine wpAnyH_take (i := 19) (v := undef) rfl (by kernel_rfl) (by kernel_rfl) (by kernel_rfl) (fun _ _ _ h => h) (Or.inr ⟨by rfl, rfl⟩) (by assumption) ?_)
      try simp only [Act.put, pu1, pu2, pu3, pu4, pu5, pu6]
      (refine wpAnyH_take (i := 20) (v := ?v20x105) rfl (by kernel_rfl) (by kernel_rfl) (by kernel_rfl) (fun _ _ _ h => h) (Or.inl ⟨by rfl, ?hy20x105⟩) (by assumption) ?rest20x105; case hy20x105 => (intro w hSw; (try dsimp only at hSw); go_split_ands; go_simp; (try with_reducible rfl)))
      try simp only [Act.put, pu1, pu2, pu3, pu4, pu5, pu6]
      (refine wpAnyH_take (i := 21) (v := ?v21x106) rfl (by kernel_rfl) (by kernel_rfl) (by kernel_rfl) (fun _ _ _ h => h) (Or.inl ⟨by rfl, ?hy21x106⟩) (by assumption) ?rest21x106; case hy21x106 => (intro w hSw; (try dsimp only at hSw); go_split_ands; go_simp; (try with_reducible rfl)))
      try simp only [Act.put, pu1, pu2, pu3, pu4, pu5, pu6]
      (refine wpAnyH_take (i := 22) (v := undef) rfl (by kernel_rfl) (by kernel_rfl) (by kernel_rfl) (fun _ _ _ h => h) (Or.inr ⟨by rfl, rfl⟩) (by assumption) ?_)
      try simp only [Act.put, pu1, pu2, pu3, pu4, pu5, pu6]
      (refine wpAnyH_take (i := 23) (v := undef) rfl (by kernel_rfl) (by kernel_rfl) (by kernel_rfl) (fun _ _ _ h => h) (Or.inr ⟨by rfl, rfl⟩) (by assumption) ?_)
      try simp only [Act.put, pu1, pu2, pu3, pu4, pu5, pu6]
      (refine wpAnyH_take (i := 24) (v := undef) rfl (by kernel_rfl) (by kernel_rfl) (by kernel_rfl) (fun _ _ _ h => h) (Or.inr ⟨by rfl, rfl⟩) (by assumption) ?_)
      try simp only [Act.put, pu1, pu2, pu3, pu4, pu5, pu6]
      (refine wpAnyH_take (i := 25) (v := ?v25x110) rfl (by kernel_rfl) (by kernel_rfl) (by kernel_rfl) (fun _ _ _ h => h) (Or.inl ⟨by rfl, ?hy25x110⟩) (by assumption) ?rest25x110; case hy25x110 => (intro w hSw; (try dsimp only at hSw); go_split_ands; go_simp; (try with_reducible rfl)))
      try simp only [Act.put, pu1, pu2, pu3, pu4, pu5, pu6]
      (refine wpAnyH_take (i := 26) (v := ?v26x111) rfl (by kernel_rfl) (by kernel_rfl) (by kernel_rfl) (fun _ _ _ h => h) (Or.inl ⟨by rfl, ?hy26x111⟩) (by assumption) ?rest26x111; case hy26x111 => (intro w hSw; (try dsimp only at hSw); go_split_ands; go_simp; (try with_reducible rfl)))
      try simp only [Act.put, pu1, pu2, pu3, pu4, pu5, pu6]
      (refine wpAnyH_take (i := 27) (v := undef) rfl (by kernel_rfl) (by kernel_rfl) (by kernel_rfl) (fun _ _ _ h => h) (Or.inr ⟨by rfl, rfl⟩) (by assumption) ?_)
      try simp only [Act.put, pu1, pu2, pu3, pu4, pu5, pu6]
      (refine wpAnyH_take (i := 28) (v := undef) rfl (by kernel_rfl) (by kernel_rfl) (by kernel_rfl) (fun _ _ _ h => h) (Or.inr ⟨by rfl, rfl⟩) (by assumption) ?_)
      try simp only [Act.put, pu1, pu2, pu3, pu4, pu5, pu6]
      (refine wpAnyH_take (i := 29) (v := undef) rfl (by kernel_rfl) (by kernel_rfl) (by kernel_rfl) (fun _ _ _ h => h) (Or.inr ⟨by rfl, rfl⟩) (by assumption) ?_)
      try simp only [Act.put, pu1, pu2, pu3, pu4, pu5, pu6]
      (refine wpAnyH_take (i := 30) (v := undef) rfl (by kernel_rfl) (by kernel_rfl) (by kernel_rfl) (fun _ _ _ h => h) (Or.inr ⟨by rfl, rfl⟩) (by assumption) ?_)
      try simp only [Act.put, pu1, pu2, pu3, pu4, pu5, pu6]
      (refine wpAnyH_take (i := 31) (v := undef) rfl (by kernel_rfl) (by kernel_rfl) (by kernel_rfl) (fun _ _ _ h => h) (Or.inr ⟨by rfl, rfl⟩) (by assumption) ?_)
      try simp only [Act.put, pu1, pu2, pu3, pu4, pu5, pu6]
      (refine wpAnyH_take (i := 32) (v := undef) rfl (by kernel_rfl) (by kernel_rfl) (by kernel_rfl) (fun _ _ _ h => h) (Or.inr ⟨by rfl, rfl⟩) (by assumption) ?_)
      try simp only [Act.put, pu1, pu2, pu3, pu4, pu5, pu6]
      (refine wpAnyH_take (i := 33) (v := undef) rfl (by kernel_rfl) (by kernel_rfl) (by kernel_rfl) (fun _ _ _ h => h) (Or.inr ⟨by rfl, rfl⟩) (by assumption) ?_)
      try simp only [Act.put, pu1, pu2, pu3, pu4, pu5, pu6]
      (refine wpAnyH_take (i := 34) (v := undef) rfl (by kernel_rfl) (by kernel_rfl) (by kernel_rfl) (fun _ _ _ h => h) (Or.inr ⟨by rfl, rfl⟩) (by assumption) ?_)
      try simp only [Act.put, pu1, pu2, pu3, pu4, pu5, pu6]
      (refine wpAnyH_take (i := 35) (v := undef) rfl (by kernel_rfl) (by kernel_rfl) (by kernel_rfl) (fun _ _ _ h => h) (Or.inr ⟨by rfl, rfl⟩) (by assumption) ?_)
      try simp only [Act.put, pu1, pu2, pu3, pu4, pu5, pu6]
      (refine wpAnyH_take (i := 36) (v := undef) rfl (by kernel_rfl) (by kernel_rfl) (by kernel_rfl) (fun _ _ _ h => h) (Or.inr ⟨by rfl, rfl⟩) (by assumption) ?_)
      try simp only [Act.put, pu1, pu2, pu3, pu4, pu5, pu6]
      (refine wpAnyH_take (i := 37) (v := undef) rfl (by kernel_rfl) (by kernel_rfl) (by kernel_rfl) (fun _ _ _ h => h) (Or.inr ⟨by rfl, rfl⟩) (by assumption) ?_)
      try simp only [Act.put, pu1, pu2, pu3, pu4, pu5, pu6]
      (refine wpAnyH_take (i := 38) (v := undef) rfl (by kernel_rfl) (by kernel_rfl) (by kernel_rfl) (fun _ _ _ h => h) (Or.inr ⟨by rfl, rfl⟩) (by assumption) ?_)
      try simp only [Act.put, pu1, pu2, pu3, pu4, pu5, pu6]
      (refine wpAnyH_take (i := 39) (v := undef) rfl (by kernel_rfl) (by kernel_rfl) (by kernel_rfl) (fun _ _ _ h => h) (Or.inr ⟨by rfl, rfl⟩) (by assumption) ?_)
      try simp only [Act.put, pu1, pu2, pu3, pu4, pu5, pu6]
      (refine wpAnyH_take (i := 40) (v := undef) rfl (by kernel_rfl) (by kernel_rfl) (by kernel_rfl) (fun _ _ _ h => h) (Or.inr ⟨by rfl, rfl⟩) (by assumption) ?_)
      try simp only [Act.put, pu1, pu2, pu3, pu4, pu5, pu6]
      (refine wpAnyH_take (i := 41) (v := ?v41x126) rfl (by kernel_rfl) (by kernel_rfl) (by kernel_rfl) (fun _ _ _ h => h) (Or.inl ⟨by rfl, ?hy41x126⟩) (by assumption) ?rest41x126; case hy41x126 => (intro w hSw; (try dsimp only at hSw); go_split_ands; go_simp; (try with_reducible rfl)))
      try simp only [Act.put, pu1, pu2, pu3, pu4, pu5, pu6]
      refine wpAnyH_done (by kernel_rfl) ?_ _
      clear hHeld
      obtain ⟨W4, HW4, b4⟩ : ∃ X, Hid (W3.drew = X) ∧ Below W3.heap.size W3 X := ⟨_, rfl, Below.drew (Below.refl _ _)⟩
      rw [HW4.out]
      have z4 : W3.heap.size ≤ W4.heap.size := b4.size
      have B4 : Hid (Below w.heap.size w W4) := B3.out.trans (b4.mono B3.out.size)
      have r_res4 : Hid (W4.heap[w.heap.size]? = some (.cells #[.int .i64 0, .string ⟨#[]⟩] 28 (0, 0))) := rowKeep r_res3.out b4
      clear r_res3 r_h3 c_h3_0 c_h3_1 o_t3
      clear f_Y3
      have HN : Hid (G = no12 a) := by show _ = _; rw [← HGG.out]; exact HIF.out (by rintro ⟨h1, h2, h3, h4, h5, h6⟩; simp at h3)
      obtain ⟨W5, HW5, b5, o_z5⟩ : ∃ X, Hid ((W4.alloc (.cells #[] 9)) = X) ∧ Below W4.heap.size W4 X ∧ Hid (Own X W4.heap.size X.heap.size 9 (.slice (some ⟨W4.heap.size, 0, none⟩) 0 0) (ss [])) := ⟨_, rfl, (Below.refl _ _).alloc (Nat.le_refl _) _, emptyT W4 W4.heap.size (Nat.le_refl _)⟩
      have B5 : Hid (Below w.heap.size w W5) := B4.out.trans (b5.mono B4.out.size)
      have r_res5 : Hid (W5.heap[w.heap.size]? = some (.cells #[.int .i64 0, .string ⟨#[]⟩] 28 (0, 0))) := rowKeep r_res4.out b5
      clear r_res4
      go_wp2_with ((try rw [HW5.out]); refine wpList_store_row rfl 28 _ _ rfl (w.heap.size) (hc hd0) rfl rfl 28 _ r_res5.out (sizeH _) rfl (oneH _) ?_)
      refine bodyPost_ret (res_r3 rfl _ _ (w.heap.size) 28 (hc hd0) (0, 0) _ rfl (setRow_heap _ _ _ _ _ (0, 0) r_res5.out) Tryz.underlying28 rfl (sizeH _)) rfl ⟨.slice (some ⟨W4.heap.size, 0, none⟩) 0 0, by rw [HN.out]; rfl, ?_, below_setRow B5.out (by omega) _⟩
      rw [HN.out]
      exact (Own.setRow o_z5.out _ (by omega)).mono (by omega) (by rw [size_setRow]; omega)
     ·
      by_cases hp : p4 = (m : Int)
      ·
       have pe : (p4 == (m : Int)) = true := by rw [beq_iff_eq]; exact hp
       have pn : (p4 != (m : Int)) = false := by rw [bne, pe]; rfl
       have HP : Hid (p4 = (m : Int)) := hp
       clear hp
       cases E
       ·
        refine wp_region_held_drew (S := fun w' => w'.cell? ⟨W2.heap.size, 0, none⟩ = some (.int .i64 n2) ∧ w'.cell? ⟨W2.heap.size, 1, none⟩ = some (.string s3) ∧ (convert 22 9 (.slice (some ⟨b, off + K, none⟩) 4 (cap0 - K))).run Tryz.prog w' = .ok (.string T) w') (by kernel_rfl) ⟨c_h3_0, c_h3_1, HCV.out _ (Below.drew B3.out)⟩ (fun hHeld => ?_)
        (refine wpAnyH_take (i := 0) (v := ?v0x127) rfl (by kernel_rfl) (by kernel_rfl) (by kernel_rfl) (fun _ _ _ h => h) (Or.inl ⟨by rfl, ?hy0x127⟩) (by assumption) ?rest0x127; case hy0x127 => (intro w hSw; (try dsimp only at hSw); go_split_ands; go_simp; (try with_reducible rfl)))
        try simp only [Act.put, pu1, pu2, pu3, pu4, pu5, pu6]
        (refine wpAnyH_take (i := 1) (v := ?v1x128) rfl (by kernel_rfl) (by kernel_rfl) (by kernel_rfl) (fun _ _ _ h => h) (Or.inl ⟨by rfl, ?hy1x128⟩) (by assumption) ?rest1x128; case hy1x128 => (intro w hSw; (try dsimp only at hSw); go_split_ands; go_simp; (try with_reducible rfl)))
        try simp only [Act.put, pu1, pu2, pu3, pu4, pu5, pu6]
        (refine wpAnyH_take (i := 2) (v := ?v2x129) rfl (by kernel_rfl) (by kernel_rfl) (by kernel_rfl) (fun _ _ _ h => h) (Or.inl ⟨by rfl, ?hy2x129⟩) (by assumption) ?rest2x129; case hy2x129 => (intro w hSw; (try dsimp only at hSw); go_split_ands; go_simp; (try with_reducible rfl)))
        try simp only [Act.put, pu1, pu2, pu3, pu4, pu5, pu6]
        (refine wpAnyH_take (i := 3) (v := ?v3x130) rfl (by kernel_rfl) (by kernel_rfl) (by kernel_rfl) (fun _ _ _ h => h) (Or.inl ⟨by rfl, ?hy3x130⟩) (by assumption) ?rest3x130; case hy3x130 => (intro w hSw; (try dsimp only at hSw); go_split_ands; go_simp; (try with_reducible rfl)))
        try simp only [Act.put, pu1, pu2, pu3, pu4, pu5, pu6]
        (refine wpAnyH_take (i := 4) (v := ?v4x131) rfl (by kernel_rfl) (by kernel_rfl) (by kernel_rfl) (fun _ _ _ h => h) (Or.inl ⟨by rfl, ?hy4x131⟩) (by assumption) ?rest4x131; case hy4x131 => (intro w hSw; (try dsimp only at hSw); go_split_ands; go_simp; (try with_reducible rfl)))
        try simp only [Act.put, pu1, pu2, pu3, pu4, pu5, pu6]
        (refine wpAnyH_take (i := 5) (v := ?v5x132) rfl (by kernel_rfl) (by kernel_rfl) (by kernel_rfl) (fun _ _ _ h => h) (Or.inl ⟨by rfl, ?hy5x132⟩) (by assumption) ?rest5x132; case hy5x132 => (intro w hSw; (try dsimp only at hSw); go_split_ands; go_simp; (try with_reducible rfl)))
        try simp only [Act.put, pu1, pu2, pu3, pu4, pu5, pu6]
        (refine wpAnyH_take (i := 6) (v := ?v6x133) rfl (by kernel_rfl) (by kernel_rfl) (by kernel_rfl) (fun _ _ _ h => h) (Or.inl ⟨by rfl, ?hy6x133⟩) (by assumption) ?rest6x133; case hy6x133 => (intro w hSw; (try dsimp only at hSw); go_split_ands; go_simp; (try with_reducible rfl)))
        try simp only [Act.put, pu1, pu2, pu3, pu4, pu5, pu6]
        (refine wpAnyH_take (i := 7) (v := ?v7x134) rfl (by kernel_rfl) (by kernel_rfl) (by kernel_rfl) (fun _ _ _ h => h) (Or.inl ⟨by rfl, ?hy7x134⟩) (by assumption) ?rest7x134; case hy7x134 => (intro w hSw; (try dsimp only at hSw); go_split_ands; go_simp; (try with_reducible rfl)))
        try simp only [Act.put, pu1, pu2, pu3, pu4, pu5, pu6]
        (refine wpAnyH_take (i := 8) (v := ?v8x135) rfl (by kernel_rfl) (by kernel_rfl) (by kernel_rfl) (fun _ _ _ h => h) (Or.inl ⟨by rfl, ?hy8x135⟩) (by assumption) ?rest8x135; case hy8x135 => (intro w hSw; (try dsimp only at hSw); go_split_ands; go_simp; (try with_reducible rfl)))
        try simp only [Act.put, pu1, pu2, pu3, pu4, pu5, pu6]
        (refine wpAnyH_take (i := 9) (v := ?v9x136) rfl (by kernel_rfl) (by kernel_rfl) (by kernel_rfl) (fun _ _ _ h => h) (Or.inl ⟨by rfl, ?hy9x136⟩) (by assumption) ?rest9x136; case hy9x136 => (intro w hSw; (try dsimp only at hSw); go_split_ands; go_simp; (try with_reducible rfl)))
        try simp only [Act.put, pu1, pu2, pu3, pu4, pu5, pu6]
        (refine wpAnyH_take (i := 10) (v := ?v10x137) rfl (by kernel_rfl) (by kernel_rfl) (by kernel_rfl) (fun _ _ _ h => h) (Or.inl ⟨by rfl, ?hy10x137⟩) (by assumption) ?rest10x137; case hy10x137 => (intro w hSw; (try dsimp only at hSw); go_split_ands; go_simp; (try with_reducible rfl)))
        try simp only [Act.put, pu1, pu2, pu3, pu4, pu5, pu6]
        (refine wpAnyH_take (i := 11) (v := ?v11x138) rfl (by kernel_rfl) (by kernel_rfl) (by kernel_rfl) (fun _ _ _ h => h) (Or.inl ⟨by rfl, ?hy11x138⟩) (by assumption) ?rest11x138; case hy11x138 => (intro w hSw; (try dsimp only at hSw); go_split_ands; go_simp; (try with_reducible rfl)))
        try simp only [Act.put, pu1, pu2, pu3, pu4, pu5, pu6]
        (refine wpAnyH_take (i := 12) (v := ?v12x139) rfl (by kernel_rfl) (by kernel_rfl) (by kernel_rfl) (fun _ _ _ h => h) (Or.inl ⟨by rfl, ?hy12x139⟩) (by assumption) ?rest12x139; case hy12x139 => (intro w hSw; (try dsimp only at hSw); go_split_ands; go_simp; (try with_reducible rfl)))
        try simp only [Act.put, pu1, pu2, pu3, pu4, pu5, pu6]
        (refine wpAnyH_take (i := 13) (v := ?v13x140) rfl (by kernel_rfl) (by kernel_rfl) (by kernel_rfl) (fun _ _ _ h => h) (Or.inl ⟨by rfl, ?hy13x140⟩) (by assumption) ?rest13x140; case hy13x140 => (intro w hSw; (try dsimp only at hSw); go_split_ands; go_simp; (try with_reducible rfl)))
        try simp only [Act.put, pu1, pu2, pu3, pu4, pu5, pu6]
        (refine wpAnyH_take (i := 14) (v := ?v14x141) rfl (by kernel_rfl) (by kernel_rfl) (by kernel_rfl) (fun _ _ _ h => h) (Or.inl ⟨by rfl, ?hy14x141⟩) (by assumption) ?rest14x141; case hy14x141 => (intro w hSw; (try dsimp only at hSw); go_split_ands; go_simp; (try with_reducible rfl)))
        try simp only [Act.put, pu1, pu2, pu3, pu4, pu5, pu6]
        (refine wpAnyH_take (i := 15) (v := ?v15x142) rfl (by kernel_rfl) (by kernel_rfl) (by kernel_rfl) (fun _ _ _ h => h) (Or.inl ⟨by rfl, ?hy15x142⟩) (by assumption) ?rest15x142; case hy15x142 => (intro w hSw; (try dsimp only at hSw); go_split_ands; go_simp; (try with_reducible rfl)))
        try simp only [Act.put, pu1, pu2, pu3, pu4, pu5, pu6]
        (refine wpAnyH_take (i := 16) (v := ?v16x143) rfl (by kernel_rfl) (by kernel_rfl) (by kernel_rfl) (fun _ _ _ h => h) (Or.inl ⟨by rfl, ?hy16x143⟩) (by assumption) ?rest16x143; case hy16x143 => (intro w hSw; (try dsimp only at hSw); go_split_ands; go_simp; (try with_reducible rfl)))
        try simp only [Act.put, pu1, pu2, pu3, pu4, pu5, pu6]
        (refine wpAnyH_take (i := 17) (v := ?v17x144) rfl (by kernel_rfl) (by kernel_rfl) (by kernel_rfl) (fun _ _ _ h => h) (Or.inl ⟨by rfl, ?hy17x144⟩) (by assumption) ?rest17x144; case hy17x144 => (intro w hSw; (try dsimp only at hSw); go_split_ands; go_simp; (try with_reducible rfl)))
        try simp only [Act.put, pu1, pu2, pu3, pu4, pu5, pu6]
        refine wpAnyH_ready (rs := [18]) (by kernel_rfl) (by simp) ?_
        refine AllReadyH.cons rfl (fun K hK => ?_) AllReadyH.nil
        go_simp
        refine (qh W3.drew).mono ?_
        rintro e W4 ⟨rfl, b4⟩
        have b4 : Below W3.heap.size W3 W4 := (Below.drew (Below.refl _ _)).trans b4
        refine hK.out _ _ ⟨keepR (W := W3) hHeld.1 b4, keepR (W := W3) hHeld.2.1 b4, HCV.out _ (B3.out.trans (b4.mono B3.out.size))⟩ (fun hHeld => ?_)
        clear hK K
        try simp only [Act.put, pu1, pu2, pu3, pu4, pu5, pu6]
        have z4 : W3.heap.size ≤ W4.heap.size := b4.size
        have B4 : Hid (Below w.heap.size w W4) := B3.out.trans (b4.mono B3.out.size)
        have r_res4 : Hid (W4.heap[w.heap.size]? = some (.cells #[.int .i64 0, .string ⟨#[]⟩] 28 (0, 0))) := rowKeep r_res3.out b4
        clear r_res3 r_h3 c_h3_0 c_h3_1 o_t3
        clear f_Y3
        (refine wpAnyH_take (i := 19) (v := ?v19x145) rfl (by kernel_rfl) (by kernel_rfl) (by kernel_rfl) (fun _ _ _ h => h) (Or.inl ⟨by rfl, ?hy19x145⟩) (by assumption) ?rest19x145; case hy19x145 => (intro w hSw; (try dsimp only at hSw); go_split_ands; go_simp; (try with_reducible rfl)))
        try simp only [Act.put, pu1, pu2, pu3, pu4, pu5, pu6]
        (refine wpAnyH_take (i := 20) (v := ?v20x146) rfl (by kernel_rfl) (by kernel_rfl) (by kernel_rfl) (fun _ _ _ h => h) (Or.inl ⟨by rfl, ?hy20x146⟩) (by assumption) ?rest20x146; case hy20x146 => (intro w hSw; (try dsimp only at hSw); go_split_ands; go_simp; (try with_reducible rfl)))
        try simp only [Act.put, pu1, pu2, pu3, pu4, pu5, pu6]
        (refine wpAnyH_take (i := 21) (v := ?v21x147) rfl (by kernel_rfl) (by kernel_rfl) (by kernel_rfl) (fun _ _ _ h => h) (Or.inl ⟨by rfl, ?hy21x147⟩) (by assumption) ?rest21x147; case hy21x147 => (intro w hSw; (try dsimp only at hSw); go_split_ands; go_simp; (try with_reducible rfl)))
        try simp only [Act.put, pu1, pu2, pu3, pu4, pu5, pu6]
        (refine wpAnyH_take (i := 22) (v := undef) rfl (by kernel_rfl) (by kernel_rfl) (by kernel_rfl) (fun _ _ _ h => h) (Or.inr ⟨by rfl, rfl⟩) (by assumption) ?_)
        try simp only [Act.put, pu1, pu2, pu3, pu4, pu5, pu6]
        (refine wpAnyH_take (i := 23) (v := undef) rfl (by kernel_rfl) (by kernel_rfl) (by kernel_rfl) (fun _ _ _ h => h) (Or.inr ⟨by rfl, rfl⟩) (by assumption) ?_)
        try simp only [Act.put, pu1, pu2, pu3, pu4, pu5, pu6]
        (refine wpAnyH_take (i := 24) (v := undef) rfl (by kernel_rfl) (by kernel_rfl) (by kernel_rfl) (fun _ _ _ h => h) (Or.inr ⟨by rfl, rfl⟩) (by assumption) ?_)
        try simp only [Act.put, pu1, pu2, pu3, pu4, pu5, pu6]
        (refine wpAnyH_take (i := 25) (v := ?v25x151) rfl (by kernel_rfl) (by kernel_rfl) (by kernel_rfl) (fun _ _ _ h => h) (Or.inl ⟨by rfl, ?hy25x151⟩) (by assumption) ?rest25x151; case hy25x151 => (intro w hSw; (try dsimp only at hSw); go_split_ands; go_simp; (try with_reducible rfl)))
        try simp only [Act.put, pu1, pu2, pu3, pu4, pu5, pu6]
        (refine wpAnyH_take (i := 26) (v := ?v26x152) rfl (by kernel_rfl) (by kernel_rfl) (by kernel_rfl) (fun _ _ _ h => h) (Or.inl ⟨by rfl, ?hy26x152⟩) (by assumption) ?rest26x152; case hy26x152 => (intro w hSw; (try dsimp only at hSw); go_split_ands; go_simp; (try with_reducible rfl)))
        try simp only [Act.put, pu1, pu2, pu3, pu4, pu5, pu6]
        (refine wpAnyH_take (i := 27) (v := undef) rfl (by kernel_rfl) (by kernel_rfl) (by kernel_rfl) (fun _ _ _ h => h) (Or.inr ⟨by rfl, rfl⟩) (by assumption) ?_)
        try simp only [Act.put, pu1, pu2, pu3, pu4, pu5, pu6]
        (refine wpAnyH_take (i := 28) (v := undef) rfl (by kernel_rfl) (by kernel_rfl) (by kernel_rfl) (fun _ _ _ h => h) (Or.inr ⟨by rfl, rfl⟩) (by assumption) ?_)
        try simp only [Act.put, pu1, pu2, pu3, pu4, pu5, pu6]
        (refine wpAnyH_take (i := 29) (v := undef) rfl (by kernel_rfl) (by kernel_rfl) (by kernel_rfl) (fun _ _ _ h => h) (Or.inr ⟨by rfl, rfl⟩) (by assumption) ?_)
        try simp only [Act.put, pu1, pu2, pu3, pu4, pu5, pu6]
        (refine wpAnyH_take (i := 30) (v := undef) rfl (by kernel_rfl) (by kernel_rfl) (by kernel_rfl) (fun _ _ _ h => h) (Or.inr ⟨by rfl, rfl⟩) (by assumption) ?_)
        try simp only [Act.put, pu1, pu2, pu3, pu4, pu5, pu6]
        (refine wpAnyH_take (i := 31) (v := undef) rfl (by kernel_rfl) (by kernel_rfl) (by kernel_rfl) (fun _ _ _ h => h) (Or.inr ⟨by rfl, rfl⟩) (by assumption) ?_)
        try simp only [Act.put, pu1, pu2, pu3, pu4, pu5, pu6]
        (refine wpAnyH_take (i := 32) (v := undef) rfl (by kernel_rfl) (by kernel_rfl) (by kernel_rfl) (fun _ _ _ h => h) (Or.inr ⟨by rfl, rfl⟩) (by assumption) ?_)
        try simp only [Act.put, pu1, pu2, pu3, pu4, pu5, pu6]
        (refine wpAnyH_take (i := 33) (v := undef) rfl (by kernel_rfl) (by kernel_rfl) (by kernel_rfl) (fun _ _ _ h => h) (Or.inr ⟨by rfl, rfl⟩) (by assumption) ?_)
        try simp only [Act.put, pu1, pu2, pu3, pu4, pu5, pu6]
        (refine wpAnyH_take (i := 34) (v := undef) rfl (by kernel_rfl) (by kernel_rfl) (by kernel_rfl) (fun _ _ _ h => h) (Or.inr ⟨by rfl, rfl⟩) (by assumption) ?_)
        try simp only [Act.put, pu1, pu2, pu3, pu4, pu5, pu6]
        (refine wpAnyH_take (i := 35) (v := undef) rfl (by kernel_rfl) (by kernel_rfl) (by kernel_rfl) (fun _ _ _ h => h) (Or.inr ⟨by rfl, rfl⟩) (by assumption) ?_)
        try simp only [Act.put, pu1, pu2, pu3, pu4, pu5, pu6]
        (refine wpAnyH_take (i := 36) (v := undef) rfl (by kernel_rfl) (by kernel_rfl) (by kernel_rfl) (fun _ _ _ h => h) (Or.inr ⟨by rfl, rfl⟩) (by assumption) ?_)
        try simp only [Act.put, pu1, pu2, pu3, pu4, pu5, pu6]
        (refine wpAnyH_take (i := 37) (v := undef) rfl (by kernel_rfl) (by kernel_rfl) (by kernel_rfl) (fun _ _ _ h => h) (Or.inr ⟨by rfl, rfl⟩) (by assumption) ?_)
        try simp only [Act.put, pu1, pu2, pu3, pu4, pu5, pu6]
        (refine wpAnyH_take (i := 38) (v := undef) rfl (by kernel_rfl) (by kernel_rfl) (by kernel_rfl) (fun _ _ _ h => h) (Or.inr ⟨by rfl, rfl⟩) (by assumption) ?_)
        try simp only [Act.put, pu1, pu2, pu3, pu4, pu5, pu6]
        (refine wpAnyH_take (i := 39) (v := undef) rfl (by kernel_rfl) (by kernel_rfl) (by kernel_rfl) (fun _ _ _ h => h) (Or.inr ⟨by rfl, rfl⟩) (by assumption) ?_)
        try simp only [Act.put, pu1, pu2, pu3, pu4, pu5, pu6]
        (refine wpAnyH_take (i := 40) (v := undef) rfl (by kernel_rfl) (by kernel_rfl) (by kernel_rfl) (fun _ _ _ h => h) (Or.inr ⟨by rfl, rfl⟩) (by assumption) ?_)
        try simp only [Act.put, pu1, pu2, pu3, pu4, pu5, pu6]
        (refine wpAnyH_take (i := 41) (v := ?v41x167) rfl (by kernel_rfl) (by kernel_rfl) (by kernel_rfl) (fun _ _ _ h => h) (Or.inl ⟨by rfl, ?hy41x167⟩) (by assumption) ?rest41x167; case hy41x167 => (intro w hSw; (try dsimp only at hSw); go_split_ands; go_simp; (try with_reducible rfl)))
        try simp only [Act.put, pu1, pu2, pu3, pu4, pu5, pu6]
        refine wpAnyH_done (by kernel_rfl) ?_ _
        clear hHeld
        have HN : Hid (G = no12 a) := by show _ = _; rw [← HGG.out]; exact HIF.out (by rintro ⟨h1, h2, h3, h4, h5, h6⟩; rw [HE.out] at h5; cases h5)
        obtain ⟨W5, HW5, b5, o_z5⟩ : ∃ X, Hid ((W4.alloc (.cells #[] 9)) = X) ∧ Below W4.heap.size W4 X ∧ Hid (Own X W4.heap.size X.heap.size 9 (.slice (some ⟨W4.heap.size, 0, none⟩) 0 0) (ss [])) := ⟨_, rfl, (Below.refl _ _).alloc (Nat.le_refl _) _, emptyT W4 W4.heap.size (Nat.le_refl _)⟩
        have B5 : Hid (Below w.heap.size w W5) := B4.out.trans (b5.mono B4.out.size)
        have r_res5 : Hid (W5.heap[w.heap.size]? = some (.cells #[.int .i64 0, .string ⟨#[]⟩] 28 (0, 0))) := rowKeep r_res4.out b5
        clear r_res4
        go_wp2_with ((try rw [HW5.out]); refine wpList_store_row rfl 28 _ _ rfl (w.heap.size) (hc hd0) rfl rfl 28 _ r_res5.out (sizeH _) rfl (oneH _) ?_)
        refine bodyPost_ret (res_r3 rfl _ _ (w.heap.size) 28 (hc hd0) (0, 0) _ rfl (setRow_heap _ _ _ _ _ (0, 0) r_res5.out) Tryz.underlying28 rfl (sizeH _)) rfl ⟨.slice (some ⟨W4.heap.size, 0, none⟩) 0 0, by rw [HN.out]; rfl, ?_, below_setRow B5.out (by omega) _⟩
        rw [HN.out]
        exact (Own.setRow o_z5.out _ (by omega)).mono (by omega) (by rw [size_setRow]; omega)
       ·
        by_cases hl : L_t = 0
        ·
         have le : ((L_t : Int) == 0) = true := by rw [beq_iff_eq]; omega
         have HL : Hid (L_t = 0) := hl
         clear hl
         refine wp_region_held_drew (S := fun w' => w'.cell? ⟨W2.heap.size, 0, none⟩ = some (.int .i64 n2) ∧ w'.cell? ⟨W2.heap.size, 1, none⟩ = some (.string s3) ∧ (convert 22 9 (.slice (some ⟨b, off + K, none⟩) 4 (cap0 - K))).run Tryz.prog w' = .ok (.string T) w') (by kernel_rfl) ⟨c_h3_0, c_h3_1, HCV.out _ (Below.drew B3.out)⟩ (fun hHeld => ?_)
         (refine wpAnyH_take (i := 0) (v := ?v0x168) rfl (by kernel_rfl) (by kernel_rfl) (by kernel_rfl) (fun _ _ _ h => h) (Or.inl ⟨by rfl, ?hy0x168⟩) (by assumption) ?rest0x168; case hy0x168 => (intro w hSw; (try dsimp only at hSw); go_split_ands; go_simp; (try with_reducible rfl)))
         try simp only [Act.put, pu1, pu2, pu3, pu4, pu5, pu6]
         (refine wpAnyH_take (i := 1) (v := ?v1x169) rfl (by kernel_rfl) (by kernel_rfl) (by kernel_rfl) (fun _ _ _ h => h) (Or.inl ⟨by rfl, ?hy1x169⟩) (by assumption) ?rest1x169; case hy1x169 => (intro w hSw; (try dsimp only at hSw); go_split_ands; go_simp; (try with_reducible rfl)))
         try simp only [Act.put, pu1, pu2, pu3, pu4, pu5, pu6]
         (refine wpAnyH_take (i := 2) (v := ?v2x170) rfl (by kernel_rfl) (by kernel_rfl) (by kernel_rfl) (fun _ _ _ h => h) (Or.inl ⟨by rfl, ?hy2x170⟩) (by assumption) ?rest2x170; case hy2x170 => (intro w hSw; (try dsimp only at hSw); go_split_ands; go_simp; (try with_reducible rfl)))
         try simp only [Act.put, pu1, pu2, pu3, pu4, pu5, pu6]
         (refine wpAnyH_take (i := 3) (v := ?v3x171) rfl (by kernel_rfl) (by kernel_rfl) (by kernel_rfl) (fun _ _ _ h => h) (Or.inl ⟨by rfl, ?hy3x171⟩) (by assumption) ?rest3x171; case hy3x171 => (intro w hSw; (try dsimp only at hSw); go_split_ands; go_simp; (try with_reducible rfl)))
         try simp only [Act.put, pu1, pu2, pu3, pu4, pu5, pu6]
         (refine wpAnyH_take (i := 4) (v := ?v4x172) rfl (by kernel_rfl) (by kernel_rfl) (by kernel_rfl) (fun _ _ _ h => h) (Or.inl ⟨by rfl, ?hy4x172⟩) (by assumption) ?rest4x172; case hy4x172 => (intro w hSw; (try dsimp only at hSw); go_split_ands; go_simp; (try with_reducible rfl)))
         try simp only [Act.put, pu1, pu2, pu3, pu4, pu5, pu6]
         (refine wpAnyH_take (i := 5) (v := ?v5x173) rfl (by kernel_rfl) (by kernel_rfl) (by kernel_rfl) (fun _ _ _ h => h) (Or.inl ⟨by rfl, ?hy5x173⟩) (by assumption) ?rest5x173; case hy5x173 => (intro w hSw; (try dsimp only at hSw); go_split_ands; go_simp; (try with_reducible rfl)))
         try simp only [Act.put, pu1, pu2, pu3, pu4, pu5, pu6]
         (refine wpAnyH_take (i := 6) (v := ?v6x174) rfl (by kernel_rfl) (by kernel_rfl) (by kernel_rfl) (fun _ _ _ h => h) (Or.inl ⟨by rfl, ?hy6x174⟩) (by assumption) ?rest6x174; case hy6x174 => (intro w hSw; (try dsimp only at hSw); go_split_ands; go_simp; (try with_reducible rfl)))
         try simp only [Act.put, pu1, pu2, pu3, pu4, pu5, pu6]
         (refine wpAnyH_take (i := 7) (v := ?v7x175) rfl (by kernel_rfl) (by kernel_rfl) (by kernel_rfl) (fun _ _ _ h => h) (Or.inl ⟨by rfl, ?hy7x175⟩) (by assumption) ?rest7x175; case hy7x175 => (intro w hSw; (try dsimp only at hSw); go_split_ands; go_simp; (try with_reducible rfl)))
         try simp only [Act.put, pu1, pu2, pu3, pu4, pu5, pu6]
         (refine wpAnyH_take (i := 8) (v := ?v8x176) rfl (by kernel_rfl) (by kernel_rfl) (by kernel_rfl) (fun _ _ _ h => h) (Or.inl ⟨by rfl, ?hy8x176⟩) (by assumption) ?rest8x176; case hy8x176 => (intro w hSw; (try dsimp only at hSw); go_split_ands; go_simp; (try with_reducible rfl)))
         try simp only [Act.put, pu1, pu2, pu3, pu4, pu5, pu6]
         (refine wpAnyH_take (i := 9) (v := ?v9x177) rfl (by kernel_rfl) (by kernel_rfl) (by kernel_rfl) (fun _ _ _ h => h) (Or.inl ⟨by rfl, ?hy9x177⟩) (by assumption) ?rest9x177; case hy9x177 => (intro w hSw; (try dsimp only at hSw); go_split_ands; go_simp; (try with_reducible rfl)))
         try simp only [Act.put, pu1, pu2, pu3, pu4, pu5, pu6]
         (refine wpAnyH_take (i := 10) (v := ?v10x178) rfl (by kernel_rfl) (by kernel_rfl) (by kernel_rfl) (fun _ _ _ h => h) (Or.inl ⟨by rfl, ?hy10x178⟩) (by assumption) ?rest10x178; case hy10x178 => (intro w hSw; (try dsimp only at hSw); go_split_ands; go_simp; (try with_reducible rfl)))
         try simp only [Act.put, pu1, pu2, pu3, pu4, pu5, pu6]
         (refine wpAnyH_take (i := 11) (v := ?v11x179) rfl (by kernel_rfl) (by kernel_rfl) (by kernel_rfl) (fun _ _ _ h => h) (Or.inl ⟨by rfl, ?hy11x179⟩) (by assumption) ?rest11x179; case hy11x179 => (intro w hSw; (try dsimp only at hSw); go_split_ands; go_simp; (try with_reducible rfl)))
         try simp only [Act.put, pu1, pu2, pu3, pu4, pu5, pu6]
         (refine wpAnyH_take (i := 12) (v := ?v12x180) rfl (by kernel_rfl) (by kernel_rfl) (by kernel_rfl) (fun _ _ _ h => h) (Or.inl ⟨by rfl, ?hy12x180⟩) (by assumption) ?rest12x180; case hy12x180 => (intro w hSw; (try dsimp only at hSw); go_split_ands; go_simp; (try with_reducible rfl)))
         try simp only [Act.put, pu1, pu2, pu3, pu4, pu5, pu6]
         (refine wpAnyH_take (i := 13) (v := ?v13x181) rfl (by kernel_rfl) (by kernel_rfl) (by kernel_rfl) (fun _ _ _ h => h) (Or.inl ⟨by rfl, ?hy13x181⟩) (by assumption) ?rest13x181; case hy13x181 => (intro w hSw; (try dsimp only at hSw); go_split_ands; go_simp; (try with_reducible rfl)))
         try simp only [Act.put, pu1, pu2, pu3, pu4, pu5, pu6]
         (refine wpAnyH_take (i := 14) (v := ?v14x182) rfl (by kernel_rfl) (by kernel_rfl) (by kernel_rfl) (fun _ _ _ h => h) (Or.inl ⟨by rfl, ?hy14x182⟩) (by assumption) ?rest14x182; case hy14x182 => (intro w hSw; (try dsimp only at hSw); go_split_ands; go_simp; (try with_reducible rfl)))
         try simp only [Act.put, pu1, pu2, pu3, pu4, pu5, pu6]
         (refine wpAnyH_take (i := 15) (v := ?v15x183) rfl (by kernel_rfl) (by kernel_rfl) (by kernel_rfl) (fun _ _ _ h => h) (Or.inl ⟨by rfl, ?hy15x183⟩) (by assumption) ?rest15x183; case hy15x183 => (intro w hSw; (try dsimp only at hSw); go_split_ands; go_simp; (try with_reducible rfl)))
         try simp only [Act.put, pu1, pu2, pu3, pu4, pu5, pu6]
         (refine wpAnyH_take (i := 16) (v := ?v16x184) rfl (by kernel_rfl) (by kernel_rfl) (by kernel_rfl) (fun _ _ _ h => h) (Or.inl ⟨by rfl, ?hy16x184⟩) (by assumption) ?rest16x184; case hy16x184 => (intro w hSw; (try dsimp only at hSw); go_split_ands; go_simp; (try with_reducible rfl)))
         try simp only [Act.put, pu1, pu2, pu3, pu4, pu5, pu6]
         (refine wpAnyH_take (i := 17) (v := ?v17x185) rfl (by kernel_rfl) (by kernel_rfl) (by kernel_rfl) (fun _ _ _ h => h) (Or.inl ⟨by rfl, ?hy17x185⟩) (by assumption) ?rest17x185; case hy17x185 => (intro w hSw; (try dsimp only at hSw); go_split_ands; go_simp; (try with_reducible rfl)))
         try simp only [Act.put, pu1, pu2, pu3, pu4, pu5, pu6]
         refine wpAnyH_ready (rs := [18]) (by kernel_rfl) (by simp) ?_
         refine AllReadyH.cons rfl (fun K hK => ?_) AllReadyH.nil
         go_simp
         refine (qh W3.drew).mono ?_
         rintro e W4 ⟨rfl, b4⟩
         have b4 : Below W3.heap.size W3 W4 := (Below.drew (Below.refl _ _)).trans b4
         refine hK.out _ _ ⟨keepR (W := W3) hHeld.1 b4, keepR (W := W3) hHeld.2.1 b4, HCV.out _ (B3.out.trans (b4.mono B3.out.size))⟩ (fun hHeld => ?_)
         clear hK K
         try simp only [Act.put, pu1, pu2, pu3, pu4, pu5, pu6]
         have z4 : W3.heap.size ≤ W4.heap.size := b4.size
         have B4 : Hid (Below w.heap.size w W4) := B3.out.trans (b4.mono B3.out.size)
         have r_res4 : Hid (W4.heap[w.heap.size]? = some (.cells #[.int .i64 0, .string ⟨#[]⟩] 28 (0, 0))) := rowKeep r_res3.out b4
         clear r_res3 r_h3 c_h3_0 c_h3_1 o_t3
         clear f_Y3
         (refine wpAnyH_take (i := 19) (v := ?v19x186) rfl (by kernel_rfl) (by kernel_rfl) (by kernel_rfl) (fun _ _ _ h => h) (Or.inl ⟨by rfl, ?hy19x186⟩) (by assumption) ?rest19x186; case hy19x186 => (intro w hSw; (try dsimp only at hSw); go_split_ands; go_simp; (try with_reducible rfl)))
         try simp only [Act.put, pu1, pu2, pu3, pu4, pu5, pu6]
         (refine wpAnyH_take (i := 20) (v := ?v20x187) rfl (by kernel_rfl) (by kernel_rfl) (by kernel_rfl) (fun _ _ _ h => h) (Or.inl ⟨by rfl, ?hy20x187⟩) (by assumption) ?rest20x187; case hy20x187 => (intro w hSw; (try dsimp only at hSw); go_split_ands; go_simp; (try with_reducible rfl)))
         try simp only [Act.put, pu1, pu2, pu3, pu4, pu5, pu6]
         (refine wpAnyH_take (i := 21) (v := ?v21x188) rfl (by kernel_rfl) (by kernel_rfl) (by kernel_rfl) (fun _ _ _ h => h) (Or.inl ⟨by rfl, ?hy21x188⟩) (by assumption) ?rest21x188; case hy21x188 => (intro w hSw; (try dsimp only at hSw); go_split_ands; go_simp; (try with_reducible rfl)))
         try simp only [Act.put, pu1, pu2, pu3, pu4, pu5, pu6]
         (refine wpAnyH_take (i := 22) (v := ?v22x189) rfl (by kernel_rfl) (by kernel_rfl) (by kernel_rfl) (fun _ _ _ h => h) (Or.inl ⟨by rfl, ?hy22x189⟩) (by assumption) ?rest22x189; case hy22x189 => (intro w hSw; (try dsimp only at hSw); go_split_ands; go_simp; (try with_reducible rfl)))
         try simp only [Act.put, pu1, pu2, pu3, pu4, pu5, pu6]
         (refine wpAnyH_take (i := 23) (v := ?v23x190) rfl (by kernel_rfl) (by kernel_rfl) (by kernel_rfl) (fun _ _ _ h => h) (Or.inl ⟨by rfl, ?hy23x190⟩) (by assumption) ?rest23x190; case hy23x190 => (intro w hSw; (try dsimp only at hSw); go_split_ands; go_simp; (try with_reducible rfl)))
         try simp only [Act.put, pu1, pu2, pu3, pu4, pu5, pu6]
         (refine wpAnyH_take (i := 24) (v := ?v24x191) rfl (by kernel_rfl) (by kernel_rfl) (by kernel_rfl) (fun _ _ _ h => h) (Or.inl ⟨by rfl, ?hy24x191⟩) (by assumption) ?rest24x191; case hy24x191 => (intro w hSw; (try dsimp only at hSw); go_split_ands; go_simp; (try with_reducible rfl)))
         try simp only [Act.put, pu1, pu2, pu3, pu4, pu5, pu6]
         (refine wpAnyH_take (i := 25) (v := ?v25x192) rfl (by kernel_rfl) (by kernel_rfl) (by kernel_rfl) (fun _ _ _ h => h) (Or.inl ⟨by rfl, ?hy25x192⟩) (by assumption) ?rest25x192; case hy25x192 => (intro w hSw; (try dsimp only at hSw); go_split_ands; go_simp; (try with_reducible rfl)))
         try simp only [Act.put, pu1, pu2, pu3, pu4, pu5, pu6]
         (refine wpAnyH_take (i := 26) (v := ?v26x193) rfl (by kernel_rfl) (by kernel_rfl) (by kernel_rfl) (fun _ _ _ h => h) (Or.inl ⟨by rfl, ?hy26x193⟩) (by assumption) ?rest26x193; case hy26x193 => (intro w hSw; (try dsimp only at hSw); go_split_ands; go_simp; (try with_reducible rfl)))
         try simp only [Act.put, pu1, pu2, pu3, pu4, pu5, pu6]
         (refine wpAnyH_take (i := 27) (v := undef) rfl (by kernel_rfl) (by kernel_rfl) (by kernel_rfl) (fun _ _ _ h => h) (Or.inr ⟨by rfl, rfl⟩) (by assumption) ?_)
         try simp only [Act.put, pu1, pu2, pu3, pu4, pu5, pu6]
         (refine wpAnyH_take (i := 28) (v := undef) rfl (by kernel_rfl) (by kernel_rfl) (by kernel_rfl) (fun _ _ _ h => h) (Or.inr ⟨by rfl, rfl⟩) (by assumption) ?_)
         try simp only [Act.put, pu1, pu2, pu3, pu4, pu5, pu6]
         (refine wpAnyH_take (i := 29) (v := undef) rfl (by kernel_rfl) (by kernel_rfl) (by kernel_rfl) (fun _ _ _ h => h) (Or.inr ⟨by rfl, rfl⟩) (by assumption) ?_)
         try simp only [Act.put, pu1, pu2, pu3, pu4, pu5, pu6]
         (refine wpAnyH_take (i := 30) (v := undef) rfl (by kernel_rfl) (by kernel_rfl) (by kernel_rfl) (fun _ _ _ h => h) (Or.inr ⟨by rfl, rfl⟩) (by assumption) ?_)
         try simp only [Act.put, pu1, pu2, pu3, pu4, pu5, pu6]
         (refine wpAnyH_take (i := 31) (v := undef) rfl (by kernel_rfl) (by kernel_rfl) (by kernel_rfl) (fun _ _ _ h => h) (Or.inr ⟨by rfl, rfl⟩) (by assumption) ?_)
         try simp only [Act.put, pu1, pu2, pu3, pu4, pu5, pu6]
         (refine wpAnyH_take (i := 32) (v := undef) rfl (by kernel_rfl) (by kernel_rfl) (by kernel_rfl) (fun _ _ _ h => h) (Or.inr ⟨by rfl, rfl⟩) (by assumption) ?_)
         try simp only [Act.put, pu1, pu2, pu3, pu4, pu5, pu6]
         (refine wpAnyH_take (i := 33) (v := undef) rfl (by kernel_rfl) (by kernel_rfl) (by kernel_rfl) (fun _ _ _ h => h) (Or.inr ⟨by rfl, rfl⟩) (by assumption) ?_)
         try simp only [Act.put, pu1, pu2, pu3, pu4, pu5, pu6]
         (refine wpAnyH_take (i := 34) (v := undef) rfl (by kernel_rfl) (by kernel_rfl) (by kernel_rfl) (fun _ _ _ h => h) (Or.inr ⟨by rfl, rfl⟩) (by assumption) ?_)
         try simp only [Act.put, pu1, pu2, pu3, pu4, pu5, pu6]
         (refine wpAnyH_take (i := 35) (v := undef) rfl (by kernel_rfl) (by kernel_rfl) (by kernel_rfl) (fun _ _ _ h => h) (Or.inr ⟨by rfl, rfl⟩) (by assumption) ?_)
         try simp only [Act.put, pu1, pu2, pu3, pu4, pu5, pu6]
         (refine wpAnyH_take (i := 36) (v := undef) rfl (by kernel_rfl) (by kernel_rfl) (by kernel_rfl) (fun _ _ _ h => h) (Or.inr ⟨by rfl, rfl⟩) (by assumption) ?_)
         try simp only [Act.put, pu1, pu2, pu3, pu4, pu5, pu6]
         (refine wpAnyH_take (i := 37) (v := undef) rfl (by kernel_rfl) (by kernel_rfl) (by kernel_rfl) (fun _ _ _ h => h) (Or.inr ⟨by rfl, rfl⟩) (by assumption) ?_)
         try simp only [Act.put, pu1, pu2, pu3, pu4, pu5, pu6]
         (refine wpAnyH_take (i := 38) (v := undef) rfl (by kernel_rfl) (by kernel_rfl) (by kernel_rfl) (fun _ _ _ h => h) (Or.inr ⟨by rfl, rfl⟩) (by assumption) ?_)
         try simp only [Act.put, pu1, pu2, pu3, pu4, pu5, pu6]
         (refine wpAnyH_take (i := 39) (v := undef) rfl (by kernel_rfl) (by kernel_rfl) (by kernel_rfl) (fun _ _ _ h => h) (Or.inr ⟨by rfl, rfl⟩) (by assumption) ?_)
         try simp only [Act.put, pu1, pu2, pu3, pu4, pu5, pu6]
         (refine wpAnyH_take (i := 40) (v := undef) rfl (by kernel_rfl) (by kernel_rfl) (by kernel_rfl) (fun _ _ _ h => h) (Or.inr ⟨by rfl, rfl⟩) (by assumption) ?_)
         try simp only [Act.put, pu1, pu2, pu3, pu4, pu5, pu6]
         (refine wpAnyH_take (i := 41) (v := ?v41x208) rfl (by kernel_rfl) (by kernel_rfl) (by kernel_rfl) (fun _ _ _ h => h) (Or.inl ⟨by rfl, ?hy41x208⟩) (by assumption) ?rest41x208; case hy41x208 => (intro w hSw; (try dsimp only at hSw); go_split_ands; go_simp; (try with_reducible rfl)))
         try simp only [Act.put, pu1, pu2, pu3, pu4, pu5, pu6]
         refine wpAnyH_done (by kernel_rfl) ?_ _
         clear hHeld
         have HN : Hid (G = no12 a) := by show _ = _; rw [← HGG.out]; exact HIF.out (by rintro ⟨h1, h2, h3, h4, h5, h6⟩; exact h6 (by have := HL.out; omega))
         obtain ⟨W5, HW5, b5, o_z5⟩ : ∃ X, Hid ((W4.alloc (.cells #[] 9)) = X) ∧ Below W4.heap.size W4 X ∧ Hid (Own X W4.heap.size X.heap.size 9 (.slice (some ⟨W4.heap.size, 0, none⟩) 0 0) (ss [])) := ⟨_, rfl, (Below.refl _ _).alloc (Nat.le_refl _) _, emptyT W4 W4.heap.size (Nat.le_refl _)⟩
         have B5 : Hid (Below w.heap.size w W5) := B4.out.trans (b5.mono B4.out.size)
         have r_res5 : Hid (W5.heap[w.heap.size]? = some (.cells #[.int .i64 0, .string ⟨#[]⟩] 28 (0, 0))) := rowKeep r_res4.out b5
         clear r_res4
         go_wp2_with ((try rw [HW5.out]); refine wpList_store_row rfl 28 _ _ rfl (w.heap.size) (hc hd0) rfl rfl 28 _ r_res5.out (sizeH _) rfl (oneH _) ?_)
         refine bodyPost_ret (res_r3 rfl _ _ (w.heap.size) 28 (hc hd0) (0, 0) _ rfl (setRow_heap _ _ _ _ _ (0, 0) r_res5.out) Tryz.underlying28 rfl (sizeH _)) rfl ⟨.slice (some ⟨W4.heap.size, 0, none⟩) 0 0, by rw [HN.out]; rfl, ?_, below_setRow B5.out (by omega) _⟩
         rw [HN.out]
         exact (Own.setRow o_z5.out _ (by omega)).mono (by omega) (by rw [size_setRow]; omega)
        ·
         have le : ((L_t : Int) == 0) = false := by rw [beq_eq_false_iff_ne]; omega
         have HL : Hid (¬ L_t = 0) := hl
         clear hl
         have HY5 := HIY.out rfl rfl rfl (by have := HP.out; omega) HE.out (by have := HL.out; omega)
         have HY6 : Hid (getC xs a = if T = D4 then (⟨n2, s3⟩, l4, (J : Int), true) else no12 a) := HY5
         clear HY5
         by_cases hT : T = D4
         ·
          subst hT
          refine wp_region_held_drew (S := fun w' => w'.cell? ⟨W2.heap.size, 0, none⟩ = some (.int .i64 n2) ∧ w'.cell? ⟨W2.heap.size, 1, none⟩ = some (.string s3) ∧ (convert 22 9 (.slice (some ⟨b, off + K, none⟩) 4 (cap0 - K))).run Tryz.prog w' = .ok (.string T) w') (by kernel_rfl) ⟨c_h3_0, c_h3_1, HCV.out _ (Below.drew B3.out)⟩ (fun hHeld => ?_)
          (refine wpAnyH_take (i := 0) (v := ?v0x209) rfl (by kernel_rfl) (by kernel_rfl) (by kernel_rfl) (fun _ _ _ h => h) (Or.inl ⟨by rfl, ?hy0x209⟩) (by assumption) ?rest0x209; case hy0x209 => (intro w hSw; (try dsimp only at hSw); go_split_ands; go_simp; (try with_reducible rfl)))
          try simp only [Act.put, pu1, pu2, pu3, pu4, pu5, pu6]
          (refine wpAnyH_take (i := 1) (v := ?v1x210) rfl (by kernel_rfl) (by kernel_rfl) (by kernel_rfl) (fun _ _ _ h => h) (Or.inl ⟨by rfl, ?hy1x210⟩) (by assumption) ?rest1x210; case hy1x210 => (intro w hSw; (try dsimp only at hSw); go_split_ands; go_simp; (try with_reducible rfl)))
          try simp only [Act.put, pu1, pu2, pu3, pu4, pu5, pu6]
          (refine wpAnyH_take (i := 2) (v := ?v2x211) rfl (by kernel_rfl) (by kernel_rfl) (by kernel_rfl) (fun _ _ _ h => h) (Or.inl ⟨by rfl, ?hy2x211⟩) (by assumption) ?rest2x211; case hy2x211 => (intro w hSw; (try dsimp only at hSw); go_split_ands; go_simp; (try with_reducible rfl)))
          try simp only [Act.put, pu1, pu2, pu3, pu4, pu5, pu6]
          (refine wpAnyH_take (i := 3) (v := ?v3x212) rfl (by kernel_rfl) (by kernel_rfl) (by kernel_rfl) (fun _ _ _ h => h) (Or.inl ⟨by rfl, ?hy3x212⟩) (by assumption) ?rest3x212; case hy3x212 => (intro w hSw; (try dsimp only at hSw); go_split_ands; go_simp; (try with_reducible rfl)))
          try simp only [Act.put, pu1, pu2, pu3, pu4, pu5, pu6]
          (refine wpAnyH_take (i := 4) (v := ?v4x213) rfl (by kernel_rfl) (by kernel_rfl) (by kernel_rfl) (fun _ _ _ h => h) (Or.inl ⟨by rfl, ?hy4x213⟩) (by assumption) ?rest4x213; case hy4x213 => (intro w hSw; (try dsimp only at hSw); go_split_ands; go_simp; (try with_reducible rfl)))
          try simp only [Act.put, pu1, pu2, pu3, pu4, pu5, pu6]
          (refine wpAnyH_take (i := 5) (v := ?v5x214) rfl (by kernel_rfl) (by kernel_rfl) (by kernel_rfl) (fun _ _ _ h => h) (Or.inl ⟨by rfl, ?hy5x214⟩) (by assumption) ?rest5x214; case hy5x214 => (intro w hSw; (try dsimp only at hSw); go_split_ands; go_simp; (try with_reducible rfl)))
          try simp only [Act.put, pu1, pu2, pu3, pu4, pu5, pu6]
          (refine wpAnyH_take (i := 6) (v := ?v6x215) rfl (by kernel_rfl) (by kernel_rfl) (by kernel_rfl) (fun _ _ _ h => h) (Or.inl ⟨by rfl, ?hy6x215⟩) (by assumption) ?rest6x215; case hy6x215 => (intro w hSw; (try dsimp only at hSw); go_split_ands; go_simp; (try with_reducible rfl)))
          try simp only [Act.put, pu1, pu2, pu3, pu4, pu5, pu6]
          (refine wpAnyH_take (i := 7) (v := ?v7x216) rfl (by kernel_rfl) (by kernel_rfl) (by kernel_rfl) (fun _ _ _ h => h) (Or.inl ⟨by rfl, ?hy7x216⟩) (by assumption) ?rest7x216; case hy7x216 => (intro w hSw; (try dsimp only at hSw); go_split_ands; go_simp; (try with_reducible rfl)))
          try simp only [Act.put, pu1, pu2, pu3, pu4, pu5, pu6]
          (refine wpAnyH_take (i := 8) (v := ?v8x217) rfl (by kernel_rfl) (by kernel_rfl) (by kernel_rfl) (fun _ _ _ h => h) (Or.inl ⟨by rfl, ?hy8x217⟩) (by assumption) ?rest8x217; case hy8x217 => (intro w hSw; (try dsimp only at hSw); go_split_ands; go_simp; (try with_reducible rfl)))
          try simp only [Act.put, pu1, pu2, pu3, pu4, pu5, pu6]
          (refine wpAnyH_take (i := 9) (v := ?v9x218) rfl (by kernel_rfl) (by kernel_rfl) (by kernel_rfl) (fun _ _ _ h => h) (Or.inl ⟨by rfl, ?hy9x218⟩) (by assumption) ?rest9x218; case hy9x218 => (intro w hSw; (try dsimp only at hSw); go_split_ands; go_simp; (try with_reducible rfl)))
          try simp only [Act.put, pu1, pu2, pu3, pu4, pu5, pu6]
          (refine wpAnyH_take (i := 10) (v := ?v10x219) rfl (by kernel_rfl) (by kernel_rfl) (by kernel_rfl) (fun _ _ _ h => h) (Or.inl ⟨by rfl, ?hy10x219⟩) (by assumption) ?rest10x219; case hy10x219 => (intro w hSw; (try dsimp only at hSw); go_split_ands; go_simp; (try with_reducible rfl)))
          try simp only [Act.put, pu1, pu2, pu3, pu4, pu5, pu6]
          (refine wpAnyH_take (i := 11) (v := ?v11x220) rfl (by kernel_rfl) (by kernel_rfl) (by kernel_rfl) (fun _ _ _ h => h) (Or.inl ⟨by rfl, ?hy11x220⟩) (by assumption) ?rest11x220; case hy11x220 => (intro w hSw; (try dsimp only at hSw); go_split_ands; go_simp; (try with_reducible rfl)))
          try simp only [Act.put, pu1, pu2, pu3, pu4, pu5, pu6]
          (refine wpAnyH_take (i := 12) (v := ?v12x221) rfl (by kernel_rfl) (by kernel_rfl) (by kernel_rfl) (fun _ _ _ h => h) (Or.inl ⟨by rfl, ?hy12x221⟩) (by assumption) ?rest12x221; case hy12x221 => (intro w hSw; (try dsimp only at hSw); go_split_ands; go_simp; (try with_reducible rfl)))
          try simp only [Act.put, pu1, pu2, pu3, pu4, pu5, pu6]
          (refine wpAnyH_take (i := 13) (v := ?v13x222) rfl (by kernel_rfl) (by kernel_rfl) (by kernel_rfl) (fun _ _ _ h => h) (Or.inl ⟨by rfl, ?hy13x222⟩) (by assumption) ?rest13x222; case hy13x222 => (intro w hSw; (try dsimp only at hSw); go_split_ands; go_simp; (try with_reducible rfl)))
          try simp only [Act.put, pu1, pu2, pu3, pu4, pu5, pu6]
          (refine wpAnyH_take (i := 14) (v := ?v14x223) rfl (by kernel_rfl) (by kernel_rfl) (by kernel_rfl) (fun _ _ _ h => h) (Or.inl ⟨by rfl, ?hy14x223⟩) (by assumption) ?rest14x223; case hy14x223 => (intro w hSw; (try dsimp only at hSw); go_split_ands; go_simp; (try with_reducible rfl)))
          try simp only [Act.put, pu1, pu2, pu3, pu4, pu5, pu6]
          (refine wpAnyH_take (i := 15) (v := ?v15x224) rfl (by kernel_rfl) (by kernel_rfl) (by kernel_rfl) (fun _ _ _ h => h) (Or.inl ⟨by rfl, ?hy15x224⟩) (by assumption) ?rest15x224; case hy15x224 => (intro w hSw; (try dsimp only at hSw); go_split_ands; go_simp; (try with_reducible rfl)))
          try simp only [Act.put, pu1, pu2, pu3, pu4, pu5, pu6]
          (refine wpAnyH_take (i := 16) (v := ?v16x225) rfl (by kernel_rfl) (by kernel_rfl) (by kernel_rfl) (fun _ _ _ h => h) (Or.inl ⟨by rfl, ?hy16x225⟩) (by assumption) ?rest16x225; case hy16x225 => (intro w hSw; (try dsimp only at hSw); go_split_ands; go_simp; (try with_reducible rfl)))
          try simp only [Act.put, pu1, pu2, pu3, pu4, pu5, pu6]
          (refine wpAnyH_take (i := 17) (v := ?v17x226) rfl (by kernel_rfl) (by kernel_rfl) (by kernel_rfl) (fun _ _ _ h => h) (Or.inl ⟨by rfl, ?hy17x226⟩) (by assumption) ?rest17x226; case hy17x226 => (intro w hSw; (try dsimp only at hSw); go_split_ands; go_simp; (try with_reducible rfl)))
          try simp only [Act.put, pu1, pu2, pu3, pu4, pu5, pu6]
          refine wpAnyH_ready (rs := [18]) (by kernel_rfl) (by simp) ?_
          refine AllReadyH.cons rfl (fun K hK => ?_) AllReadyH.nil
          go_simp
          refine (qh W3.drew).mono ?_
          rintro e W4 ⟨rfl, b4⟩
          have b4 : Below W3.heap.size W3 W4 := (Below.drew (Below.refl _ _)).trans b4
          refine hK.out _ _ ⟨keepR (W := W3) hHeld.1 b4, keepR (W := W3) hHeld.2.1 b4, HCV.out _ (B3.out.trans (b4.mono B3.out.size))⟩ (fun hHeld => ?_)
          clear hK K
          try simp only [Act.put, pu1, pu2, pu3, pu4, pu5, pu6]
          have z4 : W3.heap.size ≤ W4.heap.size := b4.size
          have B4 : Hid (Below w.heap.size w W4) := B3.out.trans (b4.mono B3.out.size)
          have r_res4 : Hid (W4.heap[w.heap.size]? = some (.cells #[.int .i64 0, .string ⟨#[]⟩] 28 (0, 0))) := rowKeep r_res3.out b4
          have r_h4 : Hid (W4.heap[W2.heap.size]? = some (.cells #[.int .i64 n2, .string s3] 28 (0, 0))) := rowKeep r_h3.out b4
          have o_t4 : Hid (Own W4 (W1.heap.size) (W2.heap.size) 9 (.slice ao_t L_t cap_t) (ss l4)) := Own.later o_t3.out b4 (by omega)
          clear r_res3 r_h3 c_h3_0 c_h3_1 o_t3
          have f_Y4 : Hid (Sl W4 (.slice (some ⟨b, off + q, none⟩) m (cap0 - q)) (bs Y)) := Sl.later f_Y3.out b4
          clear f_Y3
          (refine wpAnyH_take (i := 19) (v := ?v19x227) rfl (by kernel_rfl) (by kernel_rfl) (by kernel_rfl) (fun _ _ _ h => h) (Or.inl ⟨by rfl, ?hy19x227⟩) (by assumption) ?rest19x227; case hy19x227 => (intro w hSw; (try dsimp only at hSw); go_split_ands; go_simp; (try with_reducible rfl)))
          try simp only [Act.put, pu1, pu2, pu3, pu4, pu5, pu6]
          (refine wpAnyH_take (i := 20) (v := ?v20x228) rfl (by kernel_rfl) (by kernel_rfl) (by kernel_rfl) (fun _ _ _ h => h) (Or.inl ⟨by rfl, ?hy20x228⟩) (by assumption) ?rest20x228; case hy20x228 => (intro w hSw; (try dsimp only at hSw); go_split_ands; go_simp; (try with_reducible rfl)))
          try simp only [Act.put, pu1, pu2, pu3, pu4, pu5, pu6]
          (refine wpAnyH_take (i := 21) (v := ?v21x229) rfl (by kernel_rfl) (by kernel_rfl) (by kernel_rfl) (fun _ _ _ h => h) (Or.inl ⟨by rfl, ?hy21x229⟩) (by assumption) ?rest21x229; case hy21x229 => (intro w hSw; (try dsimp only at hSw); go_split_ands; go_simp; (try with_reducible rfl)))
          try simp only [Act.put, pu1, pu2, pu3, pu4, pu5, pu6]
          (refine wpAnyH_take (i := 22) (v := ?v22x230) rfl (by kernel_rfl) (by kernel_rfl) (by kernel_rfl) (fun _ _ _ h => h) (Or.inl ⟨by rfl, ?hy22x230⟩) (by assumption) ?rest22x230; case hy22x230 => (intro w hSw; (try dsimp only at hSw); go_split_ands; go_simp; (try with_reducible rfl)))
          try simp only [Act.put, pu1, pu2, pu3, pu4, pu5, pu6]
          (refine wpAnyH_take (i := 23) (v := ?v23x231) rfl (by kernel_rfl) (by kernel_rfl) (by kernel_rfl) (fun _ _ _ h => h) (Or.inl ⟨by rfl, ?hy23x231⟩) (by assumption) ?rest23x231; case hy23x231 => (intro w hSw; (try dsimp only at hSw); go_split_ands; go_simp; (try with_reducible rfl)))
          try simp only [Act.put, pu1, pu2, pu3, pu4, pu5, pu6]
          (refine wpAnyH_take (i := 24) (v := ?v24x232) rfl (by kernel_rfl) (by kernel_rfl) (by kernel_rfl) (fun _ _ _ h => h) (Or.inl ⟨by rfl, ?hy24x232⟩) (by assumption) ?rest24x232; case hy24x232 => (intro w hSw; (try dsimp only at hSw); go_split_ands; go_simp; (try with_reducible rfl)))
          try simp only [Act.put, pu1, pu2, pu3, pu4, pu5, pu6]
          (refine wpAnyH_take (i := 25) (v := ?v25x233) rfl (by kernel_rfl) (by kernel_rfl) (by kernel_rfl) (fun _ _ _ h => h) (Or.inl ⟨by rfl, ?hy25x233⟩) (by assumption) ?rest25x233; case hy25x233 => (intro w hSw; (try dsimp only at hSw); go_split_ands; go_simp; (try with_reducible rfl)))
          try simp only [Act.put, pu1, pu2, pu3, pu4, pu5, pu6]
          (refine wpAnyH_take (i := 26) (v := ?v26x234) rfl (by kernel_rfl) (by kernel_rfl) (by kernel_rfl) (fun _ _ _ h => h) (Or.inl ⟨by rfl, ?hy26x234⟩) (by assumption) ?rest26x234; case hy26x234 => (intro w hSw; (try dsimp only at hSw); go_split_ands; go_simp; (try with_reducible rfl)))
          try simp only [Act.put, pu1, pu2, pu3, pu4, pu5, pu6]
          (refine wpAnyH_take (i := 27) (v := ?v27x235) rfl (by kernel_rfl) (by kernel_rfl) (by kernel_rfl) (fun _ _ _ h => h) (Or.inl ⟨by rfl, ?hy27x235⟩) (by assumption) ?rest27x235; case hy27x235 => (intro w hSw; (try dsimp only at hSw); go_split_ands; go_simp; (try with_reducible rfl)))
          try simp only [Act.put, pu1, pu2, pu3, pu4, pu5, pu6]
          (refine wpAnyH_take (i := 28) (v := ?v28x236) rfl (by kernel_rfl) (by kernel_rfl) (by kernel_rfl) (fun _ _ _ h => h) (Or.inl ⟨by rfl, ?hy28x236⟩) (by assumption) ?rest28x236; case hy28x236 => (intro w hSw; (try dsimp only at hSw); go_split_ands; go_simp; (try with_reducible rfl)))
          try simp only [Act.put, pu1, pu2, pu3, pu4, pu5, pu6]
          (refine wpAnyH_take (i := 29) (v := ?v29x237) rfl (by kernel_rfl) (by kernel_rfl) (by kernel_rfl) (fun _ _ _ h => h) (Or.inl ⟨by rfl, ?hy29x237⟩) (by assumption) ?rest29x237; case hy29x237 => (intro w hSw; (try dsimp only at hSw); go_split_ands; go_simp; (try with_reducible rfl)))
          try simp only [Act.put, pu1, pu2, pu3, pu4, pu5, pu6]
          (refine wpAnyH_take (i := 30) (v := ?v30x238) rfl (by kernel_rfl) (by kernel_rfl) (by kernel_rfl) (fun _ _ _ h => h) (Or.inl ⟨by rfl, ?hy30x238⟩) (by assumption) ?rest30x238; case hy30x238 => (intro w hSw; (try dsimp only at hSw); go_split_ands; go_simp; (try with_reducible rfl)))
          try simp only [Act.put, pu1, pu2, pu3, pu4, pu5, pu6]
          (refine wpAnyH_take (i := 31) (v := ?v31x239) rfl (by kernel_rfl) (by kernel_rfl) (by kernel_rfl) (fun _ _ _ h => h) (Or.inl ⟨by rfl, ?hy31x239⟩) (by assumption) ?rest31x239; case hy31x239 => (intro w hSw; (try dsimp only at hSw); go_split_ands; go_simp; (try with_reducible rfl)))
          try simp only [Act.put, pu1, pu2, pu3, pu4, pu5, pu6]
          (refine wpAnyH_take (i := 32) (v := ?v32x240) rfl (by kernel_rfl) (by kernel_rfl) (by kernel_rfl) (fun _ _ _ h => h) (Or.inl ⟨by rfl, ?hy32x240⟩) (by assumption) ?rest32x240; case hy32x240 => (intro w hSw; (try dsimp only at hSw); go_split_ands; go_simp; (try with_reducible rfl)))
          try simp only [Act.put, pu1, pu2, pu3, pu4, pu5, pu6]
          (refine wpAnyH_take (i := 33) (v := ?v33x241) rfl (by kernel_rfl) (by kernel_rfl) (by kernel_rfl) (fun _ _ _ h => h) (Or.inl ⟨by rfl, ?hy33x241⟩) (by assumption) ?rest33x241; case hy33x241 => (intro w hSw; (try dsimp only at hSw); go_split_ands; go_simp; (try with_reducible rfl)))
          try simp only [Act.put, pu1, pu2, pu3, pu4, pu5, pu6]
          (refine wpAnyH_take (i := 34) (v := ?v34x242) rfl (by kernel_rfl) (by kernel_rfl) (by kernel_rfl) (fun _ _ _ h => h) (Or.inl ⟨by rfl, ?hy34x242⟩) (by assumption) ?rest34x242; case hy34x242 => (intro w hSw; (try dsimp only at hSw); go_split_ands; go_simp; (try with_reducible rfl)))
          try simp only [Act.put, pu1, pu2, pu3, pu4, pu5, pu6]
          (refine wpAnyH_take (i := 35) (v := ?v35x243) rfl (by kernel_rfl) (by kernel_rfl) (by kernel_rfl) (fun _ _ _ h => h) (Or.inl ⟨by rfl, ?hy35x243⟩) (by assumption) ?rest35x243; case hy35x243 => (intro w hSw; (try dsimp only at hSw); go_split_ands; go_simp; (try with_reducible rfl)))
          try simp only [Act.put, pu1, pu2, pu3, pu4, pu5, pu6]
          (refine wpAnyH_take (i := 36) (v := ?v36x244) rfl (by kernel_rfl) (by kernel_rfl) (by kernel_rfl) (fun _ _ _ h => h) (Or.inl ⟨by rfl, ?hy36x244⟩) (by assumption) ?rest36x244; case hy36x244 => (intro w hSw; (try dsimp only at hSw); go_split_ands; go_simp; (try with_reducible rfl)))
          try simp only [Act.put, pu1, pu2, pu3, pu4, pu5, pu6]
          (refine wpAnyH_take (i := 37) (v := ?v37x245) rfl (by kernel_rfl) (by kernel_rfl) (by kernel_rfl) (fun _ _ _ h => h) (Or.inl ⟨by rfl, ?hy37x245⟩) (by assumption) ?rest37x245; case hy37x245 => (intro w hSw; (try dsimp only at hSw); go_split_ands; go_simp; (try with_reducible rfl)))
          try simp only [Act.put, pu1, pu2, pu3, pu4, pu5, pu6]
          refine wpAnyH_ready (rs := [38]) (by kernel_rfl) (by simp) ?_
          refine AllReadyH.cons rfl (fun K hK => ?_) AllReadyH.nil
          go_simp
          refine (qd W4 _ (Sl.later (w := W4) f_Y4.out (Below.refl _ _))).mono ?_
          rintro e W5 ⟨rfl, b5⟩
          refine hK.out _ _ ⟨keepR (W := W4) hHeld.1 b5, keepR (W := W4) hHeld.2.1 b5, HCV.out _ (B4.out.trans (b5.mono B4.out.size))⟩ (fun hHeld => ?_)
          clear hK K
          try simp only [Act.put, pu1, pu2, pu3, pu4, pu5, pu6]
          have z5 : W4.heap.size ≤ W5.heap.size := b5.size
          have B5 : Hid (Below w.heap.size w W5) := B4.out.trans (b5.mono B4.out.size)
          have r_res5 : Hid (W5.heap[w.heap.size]? = some (.cells #[.int .i64 0, .string ⟨#[]⟩] 28 (0, 0))) := rowKeep r_res4.out b5
          have r_h5 : Hid (W5.heap[W2.heap.size]? = some (.cells #[.int .i64 n2, .string s3] 28 (0, 0))) := rowKeep r_h4.out b5
          have o_t5 : Hid (Own W5 (W1.heap.size) (W2.heap.size) 9 (.slice ao_t L_t cap_t) (ss l4)) := Own.later o_t4.out b5 (by omega)
          have c_h5_0 : W5.cell? ⟨W2.heap.size, 0, none⟩ = some (.int .i64 n2) := row_at r_h5.out 0
          have c_h5_1 : W5.cell? ⟨W2.heap.size, 1, none⟩ = some (.string s3) := row_at r_h5.out 1
          clear r_res4 r_h4 o_t4
          clear f_Y4
          (refine wpAnyH_take (i := 39) (v := ?v39x246) rfl (by kernel_rfl) (by kernel_rfl) (by kernel_rfl) (fun _ _ _ h => h) (Or.inl ⟨by rfl, ?hy39x246⟩) (by assumption) ?rest39x246; case hy39x246 => (intro w hSw; (try dsimp only at hSw); go_split_ands; go_simp; (try with_reducible rfl)))
          try simp only [Act.put, pu1, pu2, pu3, pu4, pu5, pu6]
          (refine wpAnyH_take (i := 40) (v := ?v40x247) rfl (by kernel_rfl) (by kernel_rfl) (by kernel_rfl) (fun _ _ _ h => h) (Or.inl ⟨by rfl, ?hy40x247⟩) (by assumption) ?rest40x247; case hy40x247 => (intro w hSw; (try dsimp only at hSw); go_split_ands; go_simp; (try with_reducible rfl)))
          try simp only [Act.put, pu1, pu2, pu3, pu4, pu5, pu6]
          (refine wpAnyH_take (i := 41) (v := ?v41x248) rfl (by kernel_rfl) (by kernel_rfl) (by kernel_rfl) (fun _ _ _ h => h) (Or.inl ⟨by rfl, ?hy41x248⟩) (by assumption) ?rest41x248; case hy41x248 => (intro w hSw; (try dsimp only at hSw); go_split_ands; go_simp; (try with_reducible rfl)))
          try simp only [Act.put, pu1, pu2, pu3, pu4, pu5, pu6]
          refine wpAnyH_done (by kernel_rfl) ?_ _
          clear hHeld
          have HN : Hid (G = (⟨n2, s3⟩, l4, (J : Int), true)) := by show _ = _; rw [← HGG.out, HY6.out, if_pos rfl]
          go_wp2_with (refine wpList_store_row rfl 28 _ _ rfl (w.heap.size) (hc ⟨n2, s3⟩) rfl rfl 28 _ r_res5.out (sizeH _) rfl (oneH _) ?_)
          refine bodyPost_ret (res_r3 rfl _ _ (w.heap.size) 28 (hc ⟨n2, s3⟩) (0, 0) _ rfl (setRow_heap _ _ _ _ _ (0, 0) r_res5.out) Tryz.underlying28 rfl (sizeH _)) rfl ⟨.slice ao_t L_t cap_t, by rw [HN.out]; rfl, ?_, below_setRow B5.out (by omega) _⟩
          rw [HN.out]
          exact (Own.setRow o_t5.out _ (by omega)).mono (by omega) (by rw [size_setRow]; omega)
         ·
          have te : (T.toList == D4.toList) = false := by
           rw [beq_eq_false_iff_ne, ByteArray.toList_eq, ByteArray.toList_eq]
           exact fun e => hT (by apply ByteArray.ext; apply Array.ext'; exact e)
          refine wp_region_held_drew (S := fun w' => w'.cell? ⟨W2.heap.size, 0, none⟩ = some (.int .i64 n2) ∧ w'.cell? ⟨W2.heap.size, 1, none⟩ = some (.string s3) ∧ (convert 22 9 (.slice (some ⟨b, off + K, none⟩) 4 (cap0 - K))).run Tryz.prog w' = .ok (.string T) w') (by kernel_rfl) ⟨c_h3_0, c_h3_1, HCV.out _ (Below.drew B3.out)⟩ (fun hHeld => ?_)
          (refine wpAnyH_take (i := 0) (v := ?v0x249) rfl (by kernel_rfl) (by kernel_rfl) (by kernel_rfl) (fun _ _ _ h => h) (Or.inl ⟨by rfl, ?hy0x249⟩) (by assumption) ?rest0x249; case hy0x249 => (intro w hSw; (try dsimp only at hSw); go_split_ands; go_simp; (try with_reducible rfl)))
          try simp only [Act.put, pu1, pu2, pu3, pu4, pu5, pu6]
          (refine wpAnyH_take (i := 1) (v := ?v1x250) rfl (by kernel_rfl) (by kernel_rfl) (by kernel_rfl) (fun _ _ _ h => h) (Or.inl ⟨by rfl, ?hy1x250⟩) (by assumption) ?rest1x250; case hy1x250 => (intro w hSw; (try dsimp only at hSw); go_split_ands; go_simp; (try with_reducible rfl)))
          try simp only [Act.put, pu1, pu2, pu3, pu4, pu5, pu6]
          (refine wpAnyH_take (i := 2) (v := ?v2x251) rfl (by kernel_rfl) (by kernel_rfl) (by kernel_rfl) (fun _ _ _ h => h) (Or.inl ⟨by rfl, ?hy2x251⟩) (by assumption) ?rest2x251; case hy2x251 => (intro w hSw; (try dsimp only at hSw); go_split_ands; go_simp; (try with_reducible rfl)))
          try simp only [Act.put, pu1, pu2, pu3, pu4, pu5, pu6]
          (refine wpAnyH_take (i := 3) (v := ?v3x252) rfl (by kernel_rfl) (by kernel_rfl) (by kernel_rfl) (fun _ _ _ h => h) (Or.inl ⟨by rfl, ?hy3x252⟩) (by assumption) ?rest3x252; case hy3x252 => (intro w hSw; (try dsimp only at hSw); go_split_ands; go_simp; (try with_reducible rfl)))
          try simp only [Act.put, pu1, pu2, pu3, pu4, pu5, pu6]
          (refine wpAnyH_take (i := 4) (v := ?v4x253) rfl (by kernel_rfl) (by kernel_rfl) (by kernel_rfl) (fun _ _ _ h => h) (Or.inl ⟨by rfl, ?hy4x253⟩) (by assumption) ?rest4x253; case hy4x253 => (intro w hSw; (try dsimp only at hSw); go_split_ands; go_simp; (try with_reducible rfl)))
          try simp only [Act.put, pu1, pu2, pu3, pu4, pu5, pu6]
          (refine wpAnyH_take (i := 5) (v := ?v5x254) rfl (by kernel_rfl) (by kernel_rfl) (by kernel_rfl) (fun _ _ _ h => h) (Or.inl ⟨by rfl, ?hy5x254⟩) (by assumption) ?rest5x254; case hy5x254 => (intro w hSw; (try dsimp only at hSw); go_split_ands; go_simp; (try with_reducible rfl)))
          try simp only [Act.put, pu1, pu2, pu3, pu4, pu5, pu6]
          (refine wpAnyH_take (i := 6) (v := ?v6x255) rfl (by kernel_rfl) (by kernel_rfl) (by kernel_rfl) (fun _ _ _ h => h) (Or.inl ⟨by rfl, ?hy6x255⟩) (by assumption) ?rest6x255; case hy6x255 => (intro w hSw; (try dsimp only at hSw); go_split_ands; go_simp; (try with_reducible rfl)))
          try simp only [Act.put, pu1, pu2, pu3, pu4, pu5, pu6]
          (refine wpAnyH_take (i := 7) (v := ?v7x256) rfl (by kernel_rfl) (by kernel_rfl) (by kernel_rfl) (fun _ _ _ h => h) (Or.inl ⟨by rfl, ?hy7x256⟩) (by assumption) ?rest7x256; case hy7x256 => (intro w hSw; (try dsimp only at hSw); go_split_ands; go_simp; (try with_reducible rfl)))
          try simp only [Act.put, pu1, pu2, pu3, pu4, pu5, pu6]
          (refine wpAnyH_take (i := 8) (v := ?v8x257) rfl (by kernel_rfl) (by kernel_rfl) (by kernel_rfl) (fun _ _ _ h => h) (Or.inl ⟨by rfl, ?hy8x257⟩) (by assumption) ?rest8x257; case hy8x257 => (intro w hSw; (try dsimp only at hSw); go_split_ands; go_simp; (try with_reducible rfl)))
          try simp only [Act.put, pu1, pu2, pu3, pu4, pu5, pu6]
          (refine wpAnyH_take (i := 9) (v := ?v9x258) rfl (by kernel_rfl) (by kernel_rfl) (by kernel_rfl) (fun _ _ _ h => h) (Or.inl ⟨by rfl, ?hy9x258⟩) (by assumption) ?rest9x258; case hy9x258 => (intro w hSw; (try dsimp only at hSw); go_split_ands; go_simp; (try with_reducible rfl)))
          try simp only [Act.put, pu1, pu2, pu3, pu4, pu5, pu6]
          (refine wpAnyH_take (i := 10) (v := ?v10x259) rfl (by kernel_rfl) (by kernel_rfl) (by kernel_rfl) (fun _ _ _ h => h) (Or.inl ⟨by rfl, ?hy10x259⟩) (by assumption) ?rest10x259; case hy10x259 => (intro w hSw; (try dsimp only at hSw); go_split_ands; go_simp; (try with_reducible rfl)))
          try simp only [Act.put, pu1, pu2, pu3, pu4, pu5, pu6]
          (refine wpAnyH_take (i := 11) (v := ?v11x260) rfl (by kernel_rfl) (by kernel_rfl) (by kernel_rfl) (fun _ _ _ h => h) (Or.inl ⟨by rfl, ?hy11x260⟩) (by assumption) ?rest11x260; case hy11x260 => (intro w hSw; (try dsimp only at hSw); go_split_ands; go_simp; (try with_reducible rfl)))
          try simp only [Act.put, pu1, pu2, pu3, pu4, pu5, pu6]
          (refine wpAnyH_take (i := 12) (v := ?v12x261) rfl (by kernel_rfl) (by kernel_rfl) (by kernel_rfl) (fun _ _ _ h => h) (Or.inl ⟨by rfl, ?hy12x261⟩) (by assumption) ?rest12x261; case hy12x261 => (intro w hSw; (try dsimp only at hSw); go_split_ands; go_simp; (try with_reducible rfl)))
          try simp only [Act.put, pu1, pu2, pu3, pu4, pu5, pu6]
          (refine wpAnyH_take (i := 13) (v := ?v13x262) rfl (by kernel_rfl) (by kernel_rfl) (by kernel_rfl) (fun _ _ _ h => h) (Or.inl ⟨by rfl, ?hy13x262⟩) (by assumption) ?rest13x262; case hy13x262 => (intro w hSw; (try dsimp only at hSw); go_split_ands; go_simp; (try with_reducible rfl)))
          try simp only [Act.put, pu1, pu2, pu3, pu4, pu5, pu6]
          (refine wpAnyH_take (i := 14) (v := ?v14x263) rfl (by kernel_rfl) (by kernel_rfl) (by kernel_rfl) (fun _ _ _ h => h) (Or.inl ⟨by rfl, ?hy14x263⟩) (by assumption) ?rest14x263; case hy14x263 => (intro w hSw; (try dsimp only at hSw); go_split_ands; go_simp; (try with_reducible rfl)))
          try simp only [Act.put, pu1, pu2, pu3, pu4, pu5, pu6]
          (refine wpAnyH_take (i := 15) (v := ?v15x264) rfl (by kernel_rfl) (by kernel_rfl) (by kernel_rfl) (fun _ _ _ h => h) (Or.inl ⟨by rfl, ?hy15x264⟩) (by assumption) ?rest15x264; case hy15x264 => (intro w hSw; (try dsimp only at hSw); go_split_ands; go_simp; (try with_reducible rfl)))
          try simp only [Act.put, pu1, pu2, pu3, pu4, pu5, pu6]
          (refine wpAnyH_take (i := 16) (v := ?v16x265) rfl (by kernel_rfl) (by kernel_rfl) (by kernel_rfl) (fun _ _ _ h => h) (Or.inl ⟨by rfl, ?hy16x265⟩) (by assumption) ?rest16x265; case hy16x265 => (intro w hSw; (try dsimp only at hSw); go_split_ands; go_simp; (try with_reducible rfl)))
          try simp only [Act.put, pu1, pu2, pu3, pu4, pu5, pu6]
          (refine wpAnyH_take (i := 17) (v := ?v17x266) rfl (by kernel_rfl) (by kernel_rfl) (by kernel_rfl) (fun _ _ _ h => h) (Or.inl ⟨by rfl, ?hy17x266⟩) (by assumption) ?rest17x266; case hy17x266 => (intro w hSw; (try dsimp only at hSw); go_split_ands; go_simp; (try with_reducible rfl)))
          try simp only [Act.put, pu1, pu2, pu3, pu4, pu5, pu6]
          refine wpAnyH_ready (rs := [18]) (by kernel_rfl) (by simp) ?_
          refine AllReadyH.cons rfl (fun K hK => ?_) AllReadyH.nil
          go_simp
          refine (qh W3.drew).mono ?_
          rintro e W4 ⟨rfl, b4⟩
          have b4 : Below W3.heap.size W3 W4 := (Below.drew (Below.refl _ _)).trans b4
          refine hK.out _ _ ⟨keepR (W := W3) hHeld.1 b4, keepR (W := W3) hHeld.2.1 b4, HCV.out _ (B3.out.trans (b4.mono B3.out.size))⟩ (fun hHeld => ?_)
          clear hK K
          try simp only [Act.put, pu1, pu2, pu3, pu4, pu5, pu6]
          have z4 : W3.heap.size ≤ W4.heap.size := b4.size
          have B4 : Hid (Below w.heap.size w W4) := B3.out.trans (b4.mono B3.out.size)
          have r_res4 : Hid (W4.heap[w.heap.size]? = some (.cells #[.int .i64 0, .string ⟨#[]⟩] 28 (0, 0))) := rowKeep r_res3.out b4
          clear r_res3 r_h3 c_h3_0 c_h3_1 o_t3
          have f_Y4 : Hid (Sl W4 (.slice (some ⟨b, off + q, none⟩) m (cap0 - q)) (bs Y)) := Sl.later f_Y3.out b4
          clear f_Y3
          (refine wpAnyH_take (i := 19) (v := ?v19x267) rfl (by kernel_rfl) (by kernel_rfl) (by kernel_rfl) (fun _ _ _ h => h) (Or.inl ⟨by rfl, ?hy19x267⟩) (by assumption) ?rest19x267; case hy19x267 => (intro w hSw; (try dsimp only at hSw); go_split_ands; go_simp; (try with_reducible rfl)))
          try simp only [Act.put, pu1, pu2, pu3, pu4, pu5, pu6]
          (refine wpAnyH_take (i := 20) (v := ?v20x268) rfl (by kernel_rfl) (by kernel_rfl) (by kernel_rfl) (fun _ _ _ h => h) (Or.inl ⟨by rfl, ?hy20x268⟩) (by assumption) ?rest20x268; case hy20x268 => (intro w hSw; (try dsimp only at hSw); go_split_ands; go_simp; (try with_reducible rfl)))
          try simp only [Act.put, pu1, pu2, pu3, pu4, pu5, pu6]
          (refine wpAnyH_take (i := 21) (v := ?v21x269) rfl (by kernel_rfl) (by kernel_rfl) (by kernel_rfl) (fun _ _ _ h => h) (Or.inl ⟨by rfl, ?hy21x269⟩) (by assumption) ?rest21x269; case hy21x269 => (intro w hSw; (try dsimp only at hSw); go_split_ands; go_simp; (try with_reducible rfl)))
          try simp only [Act.put, pu1, pu2, pu3, pu4, pu5, pu6]
          (refine wpAnyH_take (i := 22) (v := ?v22x270) rfl (by kernel_rfl) (by kernel_rfl) (by kernel_rfl) (fun _ _ _ h => h) (Or.inl ⟨by rfl, ?hy22x270⟩) (by assumption) ?rest22x270; case hy22x270 => (intro w hSw; (try dsimp only at hSw); go_split_ands; go_simp; (try with_reducible rfl)))
          try simp only [Act.put, pu1, pu2, pu3, pu4, pu5, pu6]
          (refine wpAnyH_take (i := 23) (v := ?v23x271) rfl (by kernel_rfl) (by kernel_rfl) (by kernel_rfl) (fun _ _ _ h => h) (Or.inl ⟨by rfl, ?hy23x271⟩) (by assumption) ?rest23x271; case hy23x271 => (intro w hSw; (try dsimp only at hSw); go_split_ands; go_simp; (try with_reducible rfl)))
          try simp only [Act.put, pu1, pu2, pu3, pu4, pu5, pu6]
          (refine wpAnyH_take (i := 24) (v := ?v24x272) rfl (by kernel_rfl) (by kernel_rfl) (by kernel_rfl) (fun _ _ _ h => h) (Or.inl ⟨by rfl, ?hy24x272⟩) (by assumption) ?rest24x272; case hy24x272 => (intro w hSw; (try dsimp only at hSw); go_split_ands; go_simp; (try with_reducible rfl)))
          try simp only [Act.put, pu1, pu2, pu3, pu4, pu5, pu6]
          (refine wpAnyH_take (i := 25) (v := ?v25x273) rfl (by kernel_rfl) (by kernel_rfl) (by kernel_rfl) (fun _ _ _ h => h) (Or.inl ⟨by rfl, ?hy25x273⟩) (by assumption) ?rest25x273; case hy25x273 => (intro w hSw; (try dsimp only at hSw); go_split_ands; go_simp; (try with_reducible rfl)))
          try simp only [Act.put, pu1, pu2, pu3, pu4, pu5, pu6]
          (refine wpAnyH_take (i := 26) (v := ?v26x274) rfl (by kernel_rfl) (by kernel_rfl) (by kernel_rfl) (fun _ _ _ h => h) (Or.inl ⟨by rfl, ?hy26x274⟩) (by assumption) ?rest26x274; case hy26x274 => (intro w hSw; (try dsimp only at hSw); go_split_ands; go_simp; (try with_reducible rfl)))
          try simp only [Act.put, pu1, pu2, pu3, pu4, pu5, pu6]
          (refine wpAnyH_take (i := 27) (v := ?v27x275) rfl (by kernel_rfl) (by kernel_rfl) (by kernel_rfl) (fun _ _ _ h => h) (Or.inl ⟨by rfl, ?hy27x275⟩) (by assumption) ?rest27x275; case hy27x275 => (intro w hSw; (try dsimp only at hSw); go_split_ands; go_simp; (try with_reducible rfl)))
          try simp only [Act.put, pu1, pu2, pu3, pu4, pu5, pu6]
          (refine wpAnyH_take (i := 28) (v := ?v28x276) rfl (by kernel_rfl) (by kernel_rfl) (by kernel_rfl) (fun _ _ _ h => h) (Or.inl ⟨by rfl, ?hy28x276⟩) (by assumption) ?rest28x276; case hy28x276 => (intro w hSw; (try dsimp only at hSw); go_split_ands; go_simp; (try with_reducible rfl)))
          try simp only [Act.put, pu1, pu2, pu3, pu4, pu5, pu6]
          (refine wpAnyH_take (i := 29) (v := ?v29x277) rfl (by kernel_rfl) (by kernel_rfl) (by kernel_rfl) (fun _ _ _ h => h) (Or.inl ⟨by rfl, ?hy29x277⟩) (by assumption) ?rest29x277; case hy29x277 => (intro w hSw; (try dsimp only at hSw); go_split_ands; go_simp; (try with_reducible rfl)))
          try simp only [Act.put, pu1, pu2, pu3, pu4, pu5, pu6]
          (refine wpAnyH_take (i := 30) (v := ?v30x278) rfl (by kernel_rfl) (by kernel_rfl) (by kernel_rfl) (fun _ _ _ h => h) (Or.inl ⟨by rfl, ?hy30x278⟩) (by assumption) ?rest30x278; case hy30x278 => (intro w hSw; (try dsimp only at hSw); go_split_ands; go_simp; (try with_reducible rfl)))
          try simp only [Act.put, pu1, pu2, pu3, pu4, pu5, pu6]
          (refine wpAnyH_take (i := 31) (v := ?v31x279) rfl (by kernel_rfl) (by kernel_rfl) (by kernel_rfl) (fun _ _ _ h => h) (Or.inl ⟨by rfl, ?hy31x279⟩) (by assumption) ?rest31x279; case hy31x279 => (intro w hSw; (try dsimp only at hSw); go_split_ands; go_simp; (try with_reducible rfl)))
          try simp only [Act.put, pu1, pu2, pu3, pu4, pu5, pu6]
          (refine wpAnyH_take (i := 32) (v := ?v32x280) rfl (by kernel_rfl) (by kernel_rfl) (by kernel_rfl) (fun _ _ _ h => h) (Or.inl ⟨by rfl, ?hy32x280⟩) (by assumption) ?rest32x280; case hy32x280 => (intro w hSw; (try dsimp only at hSw); go_split_ands; go_simp; (try with_reducible rfl)))
          try simp only [Act.put, pu1, pu2, pu3, pu4, pu5, pu6]
          (refine wpAnyH_take (i := 33) (v := ?v33x281) rfl (by kernel_rfl) (by kernel_rfl) (by kernel_rfl) (fun _ _ _ h => h) (Or.inl ⟨by rfl, ?hy33x281⟩) (by assumption) ?rest33x281; case hy33x281 => (intro w hSw; (try dsimp only at hSw); go_split_ands; go_simp; (try with_reducible rfl)))
          try simp only [Act.put, pu1, pu2, pu3, pu4, pu5, pu6]
          (refine wpAnyH_take (i := 34) (v := ?v34x282) rfl (by kernel_rfl) (by kernel_rfl) (by kernel_rfl) (fun _ _ _ h => h) (Or.inl ⟨by rfl, ?hy34x282⟩) (by assumption) ?rest34x282; case hy34x282 => (intro w hSw; (try dsimp only at hSw); go_split_ands; go_simp; (try with_reducible rfl)))
          try simp only [Act.put, pu1, pu2, pu3, pu4, pu5, pu6]
          (refine wpAnyH_take (i := 35) (v := ?v35x283) rfl (by kernel_rfl) (by kernel_rfl) (by kernel_rfl) (fun _ _ _ h => h) (Or.inl ⟨by rfl, ?hy35x283⟩) (by assumption) ?rest35x283; case hy35x283 => (intro w hSw; (try dsimp only at hSw); go_split_ands; go_simp; (try with_reducible rfl)))
          try simp only [Act.put, pu1, pu2, pu3, pu4, pu5, pu6]
          (refine wpAnyH_take (i := 36) (v := ?v36x284) rfl (by kernel_rfl) (by kernel_rfl) (by kernel_rfl) (fun _ _ _ h => h) (Or.inl ⟨by rfl, ?hy36x284⟩) (by assumption) ?rest36x284; case hy36x284 => (intro w hSw; (try dsimp only at hSw); go_split_ands; go_simp; (try with_reducible rfl)))
          try simp only [Act.put, pu1, pu2, pu3, pu4, pu5, pu6]
          (refine wpAnyH_take (i := 37) (v := ?v37x285) rfl (by kernel_rfl) (by kernel_rfl) (by kernel_rfl) (fun _ _ _ h => h) (Or.inl ⟨by rfl, ?hy37x285⟩) (by assumption) ?rest37x285; case hy37x285 => (intro w hSw; (try dsimp only at hSw); go_split_ands; go_simp; (try with_reducible rfl)))
          try simp only [Act.put, pu1, pu2, pu3, pu4, pu5, pu6]
          refine wpAnyH_ready (rs := [38]) (by kernel_rfl) (by simp) ?_
          refine AllReadyH.cons rfl (fun K hK => ?_) AllReadyH.nil
          go_simp
          refine (qd W4 _ (Sl.later (w := W4) f_Y4.out (Below.refl _ _))).mono ?_
          rintro e W5 ⟨rfl, b5⟩
          refine hK.out _ _ ⟨keepR (W := W4) hHeld.1 b5, keepR (W := W4) hHeld.2.1 b5, HCV.out _ (B4.out.trans (b5.mono B4.out.size))⟩ (fun hHeld => ?_)
          clear hK K
          try simp only [Act.put, pu1, pu2, pu3, pu4, pu5, pu6]
          have z5 : W4.heap.size ≤ W5.heap.size := b5.size
          have B5 : Hid (Below w.heap.size w W5) := B4.out.trans (b5.mono B4.out.size)
          have r_res5 : Hid (W5.heap[w.heap.size]? = some (.cells #[.int .i64 0, .string ⟨#[]⟩] 28 (0, 0))) := rowKeep r_res4.out b5
          clear r_res4
          clear f_Y4
          (refine wpAnyH_take (i := 39) (v := ?v39x286) rfl (by kernel_rfl) (by kernel_rfl) (by kernel_rfl) (fun _ _ _ h => h) (Or.inl ⟨by rfl, ?hy39x286⟩) (by assumption) ?rest39x286; case hy39x286 => (intro w hSw; (try dsimp only at hSw); go_split_ands; go_simp; (try with_reducible rfl)))
          try simp only [Act.put, pu1, pu2, pu3, pu4, pu5, pu6]
          (refine wpAnyH_take (i := 40) (v := ?v40x287) rfl (by kernel_rfl) (by kernel_rfl) (by kernel_rfl) (fun _ _ _ h => h) (Or.inl ⟨by rfl, ?hy40x287⟩) (by assumption) ?rest40x287; case hy40x287 => (intro w hSw; (try dsimp only at hSw); go_split_ands; go_simp; (try with_reducible rfl)))
          try simp only [Act.put, pu1, pu2, pu3, pu4, pu5, pu6]
          (refine wpAnyH_take (i := 41) (v := ?v41x288) rfl (by kernel_rfl) (by kernel_rfl) (by kernel_rfl) (fun _ _ _ h => h) (Or.inl ⟨by rfl, ?hy41x288⟩) (by assumption) ?rest41x288; case hy41x288 => (intro w hSw; (try dsimp only at hSw); go_split_ands; go_simp; (try with_reducible rfl)))
          try simp only [Act.put, pu1, pu2, pu3, pu4, pu5, pu6]
          refine wpAnyH_done (by kernel_rfl) ?_ _
          clear hHeld
          have HN : Hid (G = no12 a) := by show _ = _; rw [← HGG.out]; rw [HY6.out, if_neg hT]
          obtain ⟨W6, HW6, b6, o_z6⟩ : ∃ X, Hid ((W5.alloc (.cells #[] 9)) = X) ∧ Below W5.heap.size W5 X ∧ Hid (Own X W5.heap.size X.heap.size 9 (.slice (some ⟨W5.heap.size, 0, none⟩) 0 0) (ss [])) := ⟨_, rfl, (Below.refl _ _).alloc (Nat.le_refl _) _, emptyT W5 W5.heap.size (Nat.le_refl _)⟩
          have B6 : Hid (Below w.heap.size w W6) := B5.out.trans (b6.mono B5.out.size)
          have r_res6 : Hid (W6.heap[w.heap.size]? = some (.cells #[.int .i64 0, .string ⟨#[]⟩] 28 (0, 0))) := rowKeep r_res5.out b6
          clear r_res5
          go_wp2_with ((try rw [HW6.out]); refine wpList_store_row rfl 28 _ _ rfl (w.heap.size) (hc hd0) rfl rfl 28 _ r_res6.out (sizeH _) rfl (oneH _) ?_)
          refine bodyPost_ret (res_r3 rfl _ _ (w.heap.size) 28 (hc hd0) (0, 0) _ rfl (setRow_heap _ _ _ _ _ (0, 0) r_res6.out) Tryz.underlying28 rfl (sizeH _)) rfl ⟨.slice (some ⟨W5.heap.size, 0, none⟩) 0 0, by rw [HN.out]; rfl, ?_, below_setRow B6.out (by omega) _⟩
          rw [HN.out]
          exact (Own.setRow o_z6.out _ (by omega)).mono (by omega) (by rw [size_setRow]; omega)
      ·
       have pe : (p4 == (m : Int)) = false := by rw [beq_eq_false_iff_ne]; exact hp
       have pn : (p4 != (m : Int)) = true := by rw [bne, pe]; rfl
       refine wp_region_held_drew (S := fun w' => w'.cell? ⟨W2.heap.size, 0, none⟩ = some (.int .i64 n2) ∧ w'.cell? ⟨W2.heap.size, 1, none⟩ = some (.string s3) ∧ (convert 22 9 (.slice (some ⟨b, off + K, none⟩) 4 (cap0 - K))).run Tryz.prog w' = .ok (.string T) w') (by kernel_rfl) ⟨c_h3_0, c_h3_1, HCV.out _ (Below.drew B3.out)⟩ (fun hHeld => ?_)
       (refine wpAnyH_take (i := 0) (v := ?v0x289) rfl (by kernel_rfl) (by kernel_rfl) (by kernel_rfl) (fun _ _ _ h => h) (Or.inl ⟨by rfl, ?hy0x289⟩) (by assumption) ?rest0x289; case hy0x289 => (intro w hSw; (try dsimp only at hSw); go_split_ands; go_simp; (try with_reducible rfl)))
       try simp only [Act.put, pu1, pu2, pu3, pu4, pu5, pu6]
       (refine wpAnyH_take (i := 1) (v := ?v1x290) rfl (by kernel_rfl) (by kernel_rfl) (by kernel_rfl) (fun _ _ _ h => h) (Or.inl ⟨by rfl, ?hy1x290⟩) (by assumption) ?rest1x290; case hy1x290 => (intro w hSw; (try dsimp only at hSw); go_split_ands; go_simp; (try with_reducible rfl)))
       try simp only [Act.put, pu1, pu2, pu3, pu4, pu5, pu6]
       (refine wpAnyH_take (i := 2) (v := ?v2x291) rfl (by kernel_rfl) (by kernel_rfl) (by kernel_rfl) (fun _ _ _ h => h) (Or.inl ⟨by rfl, ?hy2x291⟩) (by assumption) ?rest2x291; case hy2x291 => (intro w hSw; (try dsimp only at hSw); go_split_ands; go_simp; (try with_reducible rfl)))
       try simp only [Act.put, pu1, pu2, pu3, pu4, pu5, pu6]
       (refine wpAnyH_take (i := 3) (v := ?v3x292) rfl (by kernel_rfl) (by kernel_rfl) (by kernel_rfl) (fun _ _ _ h => h) (Or.inl ⟨by rfl, ?hy3x292⟩) (by assumption) ?rest3x292; case hy3x292 => (intro w hSw; (try dsimp only at hSw); go_split_ands; go_simp; (try with_reducible rfl)))
       try simp only [Act.put, pu1, pu2, pu3, pu4, pu5, pu6]
       (refine wpAnyH_take (i := 4) (v := ?v4x293) rfl (by kernel_rfl) (by kernel_rfl) (by kernel_rfl) (fun _ _ _ h => h) (Or.inl ⟨by rfl, ?hy4x293⟩) (by assumption) ?rest4x293; case hy4x293 => (intro w hSw; (try dsimp only at hSw); go_split_ands; go_simp; (try with_reducible rfl)))
       try simp only [Act.put, pu1, pu2, pu3, pu4, pu5, pu6]
       (refine wpAnyH_take (i := 5) (v := ?v5x294) rfl (by kernel_rfl) (by kernel_rfl) (by kernel_rfl) (fun _ _ _ h => h) (Or.inl ⟨by rfl, ?hy5x294⟩) (by assumption) ?rest5x294; case hy5x294 => (intro w hSw; (try dsimp only at hSw); go_split_ands; go_simp; (try with_reducible rfl)))
       try simp only [Act.put, pu1, pu2, pu3, pu4, pu5, pu6]
       (refine wpAnyH_take (i := 6) (v := ?v6x295) rfl (by kernel_rfl) (by kernel_rfl) (by kernel_rfl) (fun _ _ _ h => h) (Or.inl ⟨by rfl, ?hy6x295⟩) (by assumption) ?rest6x295; case hy6x295 => (intro w hSw; (try dsimp only at hSw); go_split_ands; go_simp; (try with_reducible rfl)))
       try simp only [Act.put, pu1, pu2, pu3, pu4, pu5, pu6]
       (refine wpAnyH_take (i := 7) (v := ?v7x296) rfl (by kernel_rfl) (by kernel_rfl) (by kernel_rfl) (fun _ _ _ h => h) (Or.inl ⟨by rfl, ?hy7x296⟩) (by assumption) ?rest7x296; case hy7x296 => (intro w hSw; (try dsimp only at hSw); go_split_ands; go_simp; (try with_reducible rfl)))
       try simp only [Act.put, pu1, pu2, pu3, pu4, pu5, pu6]
       (refine wpAnyH_take (i := 8) (v := ?v8x297) rfl (by kernel_rfl) (by kernel_rfl) (by kernel_rfl) (fun _ _ _ h => h) (Or.inl ⟨by rfl, ?hy8x297⟩) (by assumption) ?rest8x297; case hy8x297 => (intro w hSw; (try dsimp only at hSw); go_split_ands; go_simp; (try with_reducible rfl)))
       try simp only [Act.put, pu1, pu2, pu3, pu4, pu5, pu6]
       (refine wpAnyH_take (i := 9) (v := ?v9x298) rfl (by kernel_rfl) (by kernel_rfl) (by kernel_rfl) (fun _ _ _ h => h) (Or.inl ⟨by rfl, ?hy9x298⟩) (by assumption) ?rest9x298; case hy9x298 => (intro w hSw; (try dsimp only at hSw); go_split_ands; go_simp; (try with_reducible rfl)))
       try simp only [Act.put, pu1, pu2, pu3, pu4, pu5, pu6]
       (refine wpAnyH_take (i := 10) (v := ?v10x299) rfl (by kernel_rfl) (by kernel_rfl) (by kernel_rfl) (fun _ _ _ h => h) (Or.inl ⟨by rfl, ?hy10x299⟩) (by assumption) ?rest10x299; case hy10x299 => (intro w hSw; (try dsimp only at hSw); go_split_ands; go_simp; (try with_reducible rfl)))
       try simp only [Act.put, pu1, pu2, pu3, pu4, pu5, pu6]
       (refine wpAnyH_take (i := 11) (v := ?v11x300) rfl (by kernel_rfl) (by kernel_rfl) (by kernel_rfl) (fun _ _ _ h => h) (Or.inl ⟨by rfl, ?hy11x300⟩) (by assumption) ?rest11x300; case hy11x300 => (intro w hSw; (try dsimp only at hSw); go_split_ands; go_simp; (try with_reducible rfl)))
       try simp only [Act.put, pu1, pu2, pu3, pu4, pu5, pu6]
       (refine wpAnyH_take (i := 12) (v := ?v12x301) rfl (by kernel_rfl) (by kernel_rfl) (by kernel_rfl) (fun _ _ _ h => h) (Or.inl ⟨by rfl, ?hy12x301⟩) (by assumption) ?rest12x301; case hy12x301 => (intro w hSw; (try dsimp only at hSw); go_split_ands; go_simp; (try with_reducible rfl)))
       try simp only [Act.put, pu1, pu2, pu3, pu4, pu5, pu6]
       (refine wpAnyH_take (i := 13) (v := ?v13x302) rfl (by kernel_rfl) (by kernel_rfl) (by kernel_rfl) (fun _ _ _ h => h) (Or.inl ⟨by rfl, ?hy13x302⟩) (by assumption) ?rest13x302; case hy13x302 => (intro w hSw; (try dsimp only at hSw); go_split_ands; go_simp; (try with_reducible rfl)))
       try simp only [Act.put, pu1, pu2, pu3, pu4, pu5, pu6]
       (refine wpAnyH_take (i := 14) (v := ?v14x303) rfl (by kernel_rfl) (by kernel_rfl) (by kernel_rfl) (fun _ _ _ h => h) (Or.inl ⟨by rfl, ?hy14x303⟩) (by assumption) ?rest14x303; case hy14x303 => (intro w hSw; (try dsimp only at hSw); go_split_ands; go_simp; (try with_reducible rfl)))
       try simp only [Act.put, pu1, pu2, pu3, pu4, pu5, pu6]
       (refine wpAnyH_take (i := 15) (v := ?v15x304) rfl (by kernel_rfl) (by kernel_rfl) (by kernel_rfl) (fun _ _ _ h => h) (Or.inl ⟨by rfl, ?hy15x304⟩) (by assumption) ?rest15x304; case hy15x304 => (intro w hSw; (try dsimp only at hSw); go_split_ands; go_simp; (try with_reducible rfl)))
       try simp only [Act.put, pu1, pu2, pu3, pu4, pu5, pu6]
       (refine wpAnyH_take (i := 16) (v := ?v16x305) rfl (by kernel_rfl) (by kernel_rfl) (by kernel_rfl) (fun _ _ _ h => h) (Or.inl ⟨by rfl, ?hy16x305⟩) (by assumption) ?rest16x305; case hy16x305 => (intro w hSw; (try dsimp only at hSw); go_split_ands; go_simp; (try with_reducible rfl)))
       try simp only [Act.put, pu1, pu2, pu3, pu4, pu5, pu6]
       (refine wpAnyH_take (i := 17) (v := undef) rfl (by kernel_rfl) (by kernel_rfl) (by kernel_rfl) (fun _ _ _ h => h) (Or.inr ⟨by rfl, rfl⟩) (by assumption) ?_)
       try simp only [Act.put, pu1, pu2, pu3, pu4, pu5, pu6]
       (refine wpAnyH_take (i := 18) (v := undef) rfl (by kernel_rfl) (by kernel_rfl) (by kernel_rfl) (fun _ _ _ h => h) (Or.inr ⟨by rfl, rfl⟩) (by assumption) ?_)
       try simp only [Act.put, pu1, pu2, pu3, pu4, pu5, pu6]
       (refine wpAnyH_take (i := 19) (v := undef) rfl (by kernel_rfl) (by kernel_rfl) (by kernel_rfl) (fun _ _ _ h => h) (Or.inr ⟨by rfl, rfl⟩) (by assumption) ?_)
       try simp only [Act.put, pu1, pu2, pu3, pu4, pu5, pu6]
       (refine wpAnyH_take (i := 20) (v := ?v20x309) rfl (by kernel_rfl) (by kernel_rfl) (by kernel_rfl) (fun _ _ _ h => h) (Or.inl ⟨by rfl, ?hy20x309⟩) (by assumption) ?rest20x309; case hy20x309 => (intro w hSw; (try dsimp only at hSw); go_split_ands; go_simp; (try with_reducible rfl)))
       try simp only [Act.put, pu1, pu2, pu3, pu4, pu5, pu6]
       (refine wpAnyH_take (i := 21) (v := ?v21x310) rfl (by kernel_rfl) (by kernel_rfl) (by kernel_rfl) (fun _ _ _ h => h) (Or.inl ⟨by rfl, ?hy21x310⟩) (by assumption) ?rest21x310; case hy21x310 => (intro w hSw; (try dsimp only at hSw); go_split_ands; go_simp; (try with_reducible rfl)))
       try simp only [Act.put, pu1, pu2, pu3, pu4, pu5, pu6]
       (refine wpAnyH_take (i := 22) (v := undef) rfl (by kernel_rfl) (by kernel_rfl) (by kernel_rfl) (fun _ _ _ h => h) (Or.inr ⟨by rfl, rfl⟩) (by assumption) ?_)
       try simp only [Act.put, pu1, pu2, pu3, pu4, pu5, pu6]
       (refine wpAnyH_take (i := 23) (v := undef) rfl (by kernel_rfl) (by kernel_rfl) (by kernel_rfl) (fun _ _ _ h => h) (Or.inr ⟨by rfl, rfl⟩) (by assumption) ?_)
       try simp only [Act.put, pu1, pu2, pu3, pu4, pu5, pu6]
       (refine wpAnyH_take (i := 24) (v := undef) rfl (by kernel_rfl) (by kernel_rfl) (by kernel_rfl) (fun _ _ _ h => h) (Or.inr ⟨by rfl, rfl⟩) (by assumption) ?_)
       try simp only [Act.put, pu1, pu2, pu3, pu4, pu5, pu6]
       (refine wpAnyH_take (i := 25) (v := ?v25x314) rfl (by kernel_rfl) (by kernel_rfl) (by kernel_rfl) (fun _ _ _ h => h) (Or.inl ⟨by rfl, ?hy25x314⟩) (by assumption) ?rest25x314; case hy25x314 => (intro w hSw; (try dsimp only at hSw); go_split_ands; go_simp; (try with_reducible rfl)))
       try simp only [Act.put, pu1, pu2, pu3, pu4, pu5, pu6]
       (refine wpAnyH_take (i := 26) (v := ?v26x315) rfl (by kernel_rfl) (by kernel_rfl) (by kernel_rfl) (fun _ _ _ h => h) (Or.inl ⟨by rfl, ?hy26x315⟩) (by assumption) ?rest26x315; case hy26x315 => (intro w hSw; (try dsimp only at hSw); go_split_ands; go_simp; (try with_reducible rfl)))
       try simp only [Act.put, pu1, pu2, pu3, pu4, pu5, pu6]
       (refine wpAnyH_take (i := 27) (v := undef) rfl (by kernel_rfl) (by kernel_rfl) (by kernel_rfl) (fun _ _ _ h => h) (Or.inr ⟨by rfl, rfl⟩) (by assumption) ?_)
       try simp only [Act.put, pu1, pu2, pu3, pu4, pu5, pu6]
       (refine wpAnyH_take (i := 28) (v := undef) rfl (by kernel_rfl) (by kernel_rfl) (by kernel_rfl) (fun _ _ _ h => h) (Or.inr ⟨by rfl, rfl⟩) (by assumption) ?_)
       try simp only [Act.put, pu1, pu2, pu3, pu4, pu5, pu6]
       (refine wpAnyH_take (i := 29) (v := undef) rfl (by kernel_rfl) (by kernel_rfl) (by kernel_rfl) (fun _ _ _ h => h) (Or.inr ⟨by rfl, rfl⟩) (by assumption) ?_)
       try simp only [Act.put, pu1, pu2, pu3, pu4, pu5, pu6]
       (refine wpAnyH_take (i := 30) (v := undef) rfl (by kernel_rfl) (by kernel_rfl) (by kernel_rfl) (fun _ _ _ h => h) (Or.inr ⟨by rfl, rfl⟩) (by assumption) ?_)
       try simp only [Act.put, pu1, pu2, pu3, pu4, pu5, pu6]
       (refine wpAnyH_take (i := 31) (v := undef) rfl (by kernel_rfl) (by kernel_rfl) (by kernel_rfl) (fun _ _ _ h => h) (Or.inr ⟨by rfl, rfl⟩) (by assumption) ?_)
       try simp only [Act.put, pu1, pu2, pu3, pu4, pu5, pu6]
       (refine wpAnyH_take (i := 32) (v := undef) rfl (by kernel_rfl) (by kernel_rfl) (by kernel_rfl) (fun _ _ _ h => h) (Or.inr ⟨by rfl, rfl⟩) (by assumption) ?_)
       try simp only [Act.put, pu1, pu2, pu3, pu4, pu5, pu6]
       (refine wpAnyH_take (i := 33) (v := undef) rfl (by kernel_rfl) (by kernel_rfl) (by kernel_rfl) (fun _ _ _ h => h) (Or.inr ⟨by rfl, rfl⟩) (by assumption) ?_)
       try simp only [Act.put, pu1, pu2, pu3, pu4, pu5, pu6]
       (refine wpAnyH_take (i := 34) (v := undef) rfl (by kernel_rfl) (by kernel_rfl) (by kernel_rfl) (fun _ _ _ h => h) (Or.inr ⟨by rfl, rfl⟩) (by assumption) ?_)
       try simp only [Act.put, pu1, pu2, pu3, pu4, pu5, pu6]
       (refine wpAnyH_take (i := 35) (v := undef) rfl (by kernel_rfl) (by kernel_rfl) (by kernel_rfl) (fun _ _ _ h => h) (Or.inr ⟨by rfl, rfl⟩) (by assumption) ?_)
       try simp only [Act.put, pu1, pu2, pu3, pu4, pu5, pu6]
       (refine wpAnyH_take (i := 36) (v := undef) rfl (by kernel_rfl) (by kernel_rfl) (by kernel_rfl) (fun _ _ _ h => h) (Or.inr ⟨by rfl, rfl⟩) (by assumption) ?_)
       try simp only [Act.put, pu1, pu2, pu3, pu4, pu5, pu6]
       (refine wpAnyH_take (i := 37) (v := undef) rfl (by kernel_rfl) (by kernel_rfl) (by kernel_rfl) (fun _ _ _ h => h) (Or.inr ⟨by rfl, rfl⟩) (by assumption) ?_)
       try simp only [Act.put, pu1, pu2, pu3, pu4, pu5, pu6]
       (refine wpAnyH_take (i := 38) (v := undef) rfl (by kernel_rfl) (by kernel_rfl) (by kernel_rfl) (fun _ _ _ h => h) (Or.inr ⟨by rfl, rfl⟩) (by assumption) ?_)
       try simp only [Act.put, pu1, pu2, pu3, pu4, pu5, pu6]
       (refine wpAnyH_take (i := 39) (v := undef) rfl (by kernel_rfl) (by kernel_rfl) (by kernel_rfl) (fun _ _ _ h => h) (Or.inr ⟨by rfl, rfl⟩) (by assumption) ?_)
       try simp only [Act.put, pu1, pu2, pu3, pu4, pu5, pu6]
       (refine wpAnyH_take (i := 40) (v := undef) rfl (by kernel_rfl) (by kernel_rfl) (by kernel_rfl) (fun _ _ _ h => h) (Or.inr ⟨by rfl, rfl⟩) (by assumption) ?_)
       try simp only [Act.put, pu1, pu2, pu3, pu4, pu5, pu6]
       (refine wpAnyH_take (i := 41) (v := ?v41x330) rfl (by kernel_rfl) (by kernel_rfl) (by kernel_rfl) (fun _ _ _ h => h) (Or.inl ⟨by rfl, ?hy41x330⟩) (by assumption) ?rest41x330; case hy41x330 => (intro w hSw; (try dsimp only at hSw); go_split_ands; go_simp; (try with_reducible rfl)))
       try simp only [Act.put, pu1, pu2, pu3, pu4, pu5, pu6]
       refine wpAnyH_done (by kernel_rfl) ?_ _
       clear hHeld
       obtain ⟨W4, HW4, b4⟩ : ∃ X, Hid (W3.drew = X) ∧ Below W3.heap.size W3 X := ⟨_, rfl, Below.drew (Below.refl _ _)⟩
       rw [HW4.out]
       have z4 : W3.heap.size ≤ W4.heap.size := b4.size
       have B4 : Hid (Below w.heap.size w W4) := B3.out.trans (b4.mono B3.out.size)
       have r_res4 : Hid (W4.heap[w.heap.size]? = some (.cells #[.int .i64 0, .string ⟨#[]⟩] 28 (0, 0))) := rowKeep r_res3.out b4
       clear r_res3 r_h3 c_h3_0 c_h3_1 o_t3
       clear f_Y3
       have HN : Hid (G = no12 a) := by show _ = _; rw [← HGG.out]; exact HIF.out (by rintro ⟨h1, h2, h3, h4, h5, h6⟩; exact hp (by omega))
       obtain ⟨W5, HW5, b5, o_z5⟩ : ∃ X, Hid ((W4.alloc (.cells #[] 9)) = X) ∧ Below W4.heap.size W4 X ∧ Hid (Own X W4.heap.size X.heap.size 9 (.slice (some ⟨W4.heap.size, 0, none⟩) 0 0) (ss [])) := ⟨_, rfl, (Below.refl _ _).alloc (Nat.le_refl _) _, emptyT W4 W4.heap.size (Nat.le_refl _)⟩
       have B5 : Hid (Below w.heap.size w W5) := B4.out.trans (b5.mono B4.out.size)
       have r_res5 : Hid (W5.heap[w.heap.size]? = some (.cells #[.int .i64 0, .string ⟨#[]⟩] 28 (0, 0))) := rowKeep r_res4.out b5
       clear r_res4
       go_wp2_with ((try rw [HW5.out]); refine wpList_store_row rfl 28 _ _ rfl (w.heap.size) (hc hd0) rfl rfl 28 _ r_res5.out (sizeH _) rfl (oneH _) ?_)
       refine bodyPost_ret (res_r3 rfl _ _ (w.heap.size) 28 (hc hd0) (0, 0) _ rfl (setRow_heap _ _ _ _ _ (0, 0) r_res5.out) Tryz.underlying28 rfl (sizeH _)) rfl ⟨.slice (some ⟨W4.heap.size, 0, none⟩) 0 0, by rw [HN.out]; rfl, ?_, below_setRow B5.out (by omega) _⟩
       rw [HN.out]
       exact (Own.setRow o_z5.out _ (by omega)).mono (by omega) (by rw [size_setRow]; omega)
  ·
   have HN : Hid (G = no12 a) := by show _ = _; rw [← HGG.out]; unfold getC; rw [HG.out, if_neg (fun h => absurd h.2 (by omega))]
   obtain ⟨W2, HW2, b2, o_z2⟩ : ∃ X, Hid ((W1.alloc (.cells #[] 9)) = X) ∧ Below W1.heap.size W1 X ∧ Hid (Own X W1.heap.size X.heap.size 9 (.slice (some ⟨W1.heap.size, 0, none⟩) 0 0) (ss [])) := ⟨_, rfl, (Below.refl _ _).alloc (Nat.le_refl _) _, emptyT W1 W1.heap.size (Nat.le_refl _)⟩
   have B2 : Hid (Below w.heap.size w W2) := B1.out.trans (b2.mono B1.out.size)
   have r_res2 : Hid (W2.heap[w.heap.size]? = some (.cells #[.int .i64 0, .string ⟨#[]⟩] 28 (0, 0))) := rowKeep r_res1.out b2
   clear r_res1
   go_wp2_with ((try rw [HW2.out]); refine wpList_store_row rfl 28 _ _ rfl (w.heap.size) (hc hd0) rfl rfl 28 _ r_res2.out (sizeH _) rfl (oneH _) ?_)
   refine bodyPost_ret (res_r3 rfl _ _ (w.heap.size) 28 (hc hd0) (0, 0) _ rfl (setRow_heap _ _ _ _ _ (0, 0) r_res2.out) Tryz.underlying28 rfl (sizeH _)) rfl ⟨.slice (some ⟨W1.heap.size, 0, none⟩) 0 0, by rw [HN.out]; rfl, ?_, below_setRow B2.out (by omega) _⟩
   rw [HN.out]
   exact (Own.setRow o_z2.out _ (by omega)).mono (by omega) (by rw [size_setRow]; omega)
end Go.Proofs.YtfpaichdkddglaaGreatDoor.Sr
