/- Texts in one: KpD. -/
import Derived.Test.YtchonoonclllbaaGreatDoorPv6
import Derived.Test.YtchonoonclllbaaGreatDoorPv13
import Derived.Test.YtchonoonclllbaaGreatDoorPv19
import Derived.Test.YtchonoonclllbaaGreatDoorPv5
import Derived.Lib.ConvBytes
import Derived.Lib.AtoiErrMem
namespace Go.Proofs.YtchonoonclllbaaGreatDoor.Sr
open Go.RowKit Go.Proofs.YtchonoonclllbaaGreatDoor.Mem Go.Proofs.YtchonoonclllbaaGreatDoor.Laws Go.Proofs.YtchonoonclllbaaGreatDoor.Bytes Go.Proofs.YtchonoonclllbaaGreatDoor.Sha Go.Proofs.YtchonoonclllbaaGreatDoor.Tr Go.Proofs.YtchonoonclllbaaGreatDoor.He Go.Proofs.YtchonoonclllbaaGreatDoor.Lg
set_option linter.unusedVariables false
set_option linter.unusedSimpArgs false
theorem toList_inj12 {a b : ByteArray} (h : a.toList = b.toList) : a = b := by
 rw [ByteArray.toList_eq, ByteArray.toList_eq] at h
 exact ByteArray.ext (Array.ext' h)
def cutC (xs : List Int) (a : Int) (q m : Nat) : Hd × List ByteArray × Int × Bool := match inBody ((xs.drop q).take m) with
 | some (h, x) => (h, x, ((q + m + 4 : Nat) : Int), true)
 | none => no12 a
set_option maxRecDepth 1000000 in
set_option maxHeartbeats 8000000 in
theorem cut_impl (w : World) (v : Value) (xs : List Int) (a : Int) (hG : Glob w) (hN : NoC w) (hs : Sl w v (bs xs)) (hb : Byt xs) (hx : xs.length ≤ 1000000000000) (hlo : -9223372036854775808 ≤ a) (hhi : a ≤ 9223372036854775807) :
  Calls Tryz.prog 157 #[v, .int .i64 a] w fun e w' => (((∃ u x, e = .panicked [{ v := .iface u x, recovered := false }]) ∧ getC xs a = no12 a) ∨ (∃ (q m b off cap : Nat), v = .slice (some ⟨b, off, none⟩) xs.length cap ∧ e = .returned (.tuple #[.slice (some ⟨b, off + q, none⟩) m (cap - q), .int .i64 ((q + m + 4 : Nat) : Int)]) ∧ q + m + 4 ≤ xs.length ∧ getC xs a = cutC xs a q m)) ∧ Below w.heap.size w w' := by
 have HS : Hid (Sl w v (bs xs)) := hs
 have HBY : Hid (Byt xs) := hb
 have HG : Hid (Glob w) := hG
 have HN : Hid (NoC w) := hN
 obtain ⟨ao0, cap0, rfl, hc0⟩ := hs.form
 rw [bs_len] at *
 clear hs hb hG hN
 have B0 : Hid (Below w.heap.size w w) := Below.refl _ _
 have q1 := Gets.get_impl w _ xs a HS.out HBY.out (by omega) hlo hhi
 obtain ⟨n, p, ok, hg⟩ : ∃ n p ok, Plain.getNum xs a = (n, p, ok) := ⟨_, _, _, rfl⟩
 rw [hg] at q1
 have HGN : Hid (Plain.getNum xs a = (n, p, ok)) := hg
 simp only at q1
 clear hg
 obtain ⟨G, hG⟩ : ∃ G, getC xs a = G := ⟨_, rfl⟩
 have HGG : Hid (getC xs a = G) := hG
 rw [hG]
 clear hG
 go_enter Tryz.func157, Tryz.ntmps157
 go_wp2_with fail
 refine (q1).mono ?_
 rintro e W_ ⟨rfl, hW_⟩
 have hW_ := hW_.symm
 subst hW_
 clear q1
 cases ok
 ·
  have HNO : Hid (G = no12 a) := by show _ = _; rw [← HGG.out]; unfold getC; rw [HGN.out, if_neg (by simp)]
  go_wp2_with fail
  refine (giveup_no w (HN.out.later B0.out)).mono ?_
  rintro e W_ ⟨⟨u9, x9, rfl⟩, hW_⟩
  subst hW_
  go_wp2
  exact ⟨rfl, Or.inl ⟨⟨_, _, rfl⟩, HNO.out⟩, B0.out⟩
 ·
  obtain ⟨g0, g1, g2, g3, g4, g5⟩ := Plain.getNum_bd HGN.out
  obtain ⟨m, rfl⟩ : ∃ m : Nat, n = (m : Int) := ⟨n.toNat, by omega⟩
  obtain ⟨q, rfl⟩ : ∃ q : Nat, p = (q : Int) := ⟨p.toNat, by omega⟩
  have wa : IntKind.i64.wrap ((xs.length : Int) - (q : Int)) = (xs.length : Int) - (q : Int) := by rw [IntKind.wrap_i64]; omega
  have wb : IntKind.i64.wrap ((xs.length : Int) - (q : Int) - 4) = (xs.length : Int) - (q : Int) - 4 := by rw [IntKind.wrap_i64]; omega
  by_cases hcc : (m : Int) ≤ (xs.length : Int) - (q : Int) - 4
  ·
   have dc : decide ((m : Int) ≤ (xs.length : Int) - (q : Int) - 4) = true := decide_eq_true hcc
   go_wp2_with fail
   refine (giveup_yes w).mono ?_
   rintro e W_ ⟨rfl, hW_⟩
   subst hW_
   clear dc
   obtain ⟨b, off, cap, he, hcap⟩ := slForm HS.out (by rw [bs_len]; omega)
   simp only [Value.slice.injEq] at he
   obtain ⟨rfl, -, rfl⟩ := he
   rw [bs_len] at hcap
   have hcq : ¬ cap0 = q := by omega
   obtain ⟨Y, hY⟩ : ∃ Y, (xs.drop q).take m = Y := ⟨_, rfl⟩
   have hYl : Y.length ≤ m ∧ m ≤ Y.length := by rw [← hY, List.length_take, List.length_drop]; omega
   have HYB : Hid (Byt Y) := by show Byt Y; rw [← hY]; exact fun y hy => HBY.out y (List.mem_of_mem_drop (List.mem_of_mem_take hy))
   have f_Y0 : Hid (Sl w (.slice (some ⟨b, off + q, none⟩) m (cap0 - q)) (bs Y)) := by show Sl _ _ _; rw [← hY]; exact slMidB (HS.out.later B0.out) q m (by omega)
   have HYY : Hid ((xs.drop q).take m = Y) := hY
   clear hY
   obtain ⟨K, hK⟩ : ∃ K, q + m = K := ⟨_, rfl⟩
   obtain ⟨J, hJ⟩ : ∃ J, K + 4 = J := ⟨_, rfl⟩
   have HKJ : Hid (q + m = K ∧ K + 4 = J) := ⟨hK, hJ⟩
   have iK : (K : Int) = (q : Int) + (m : Int) ∧ (J : Int) = (K : Int) + 4 := by omega
   have HIK : Hid ((K : Int) = (q : Int) + (m : Int) ∧ (J : Int) = (K : Int) + 4) := iK
   clear hK hJ iK
   obtain ⟨T, hT⟩ : ∃ T, Plain.txt ((xs.drop K).take 4) = T := ⟨_, rfl⟩
   have cv : ∀ W, Below w.heap.size w W → (convert 22 9 (.slice (some ⟨b, off + K, none⟩) 4 (cap0 - K))).run Tryz.prog W = .ok (.string T) W := fun W hW => by rw [← hT]; exact conv12 (HS.out.later hW) HBY.out (by have := HKJ.out; omega)
   have HTT : Hid (Plain.txt ((xs.drop K).take 4) = T) := hT
   have HCV : Hid (∀ W, Below w.heap.size w W → (convert 22 9 (.slice (some ⟨b, off + K, none⟩) 4 (cap0 - K))).run Tryz.prog W = .ok (.string T) W) := cv
   clear hT cv
   obtain ⟨d1, d2, d3⟩ := dig4 Y
   have qd : ∀ W v1, Glob W → Sl W v1 (bs Y) → _ := fun W v1 g1 h1 => sum_impl W v1 Y g1 h1 HYB.out (by omega)
   obtain ⟨D4, hD4⟩ : ∃ T, (Plain.txt (digest Y)).extract 0 4 = T := ⟨_, rfl⟩
   rw [hD4] at d2 d3
   simp only [hD4] at qd
   have HD4 : Hid (sb D4 = sum4 Y) := d3
   clear d1 d2 d3 hD4
   have HIY : Hid (getC xs a = if T = D4 then cutC xs a q m else no12 a) := by
    show _ = _
    unfold getC cutC
    rw [HGN.out, if_pos ⟨rfl, hcc⟩]
    simp only [Int.toNat_natCast]
    rw [HYY.out]
    have e4 : (xs.drop (q + m)).take 4 = sb T := by rw [HKJ.out.1]; rw [← HTT.out, sb_txt (fun y hy => HBY.out y (List.mem_of_mem_drop (List.mem_of_mem_take hy)))]
    cases inBody Y with
    | none => simp
    | some z =>
     obtain ⟨h, x⟩ := z
     simp only
     by_cases hTD : T = D4
     ·
      rw [if_pos hTD, if_pos (by rw [e4, hTD, HD4.out])]
      simp only [Prod.mk.injEq, true_and, and_true]
      omega
     ·
      rw [if_neg hTD, if_neg]
      intro he
      rw [e4, ← HD4.out] at he
      exact hTD (sb_inj12 he)
   have wr1 : IntKind.i64.wrap ((q : Int) + (m : Int)) = (K : Int) := by have := HIK.out; rw [IntKind.wrap_i64]; omega
   have wr2 : IntKind.i64.wrap ((K : Int) + 4) = (J : Int) := by have := HIK.out; rw [IntKind.wrap_i64]; omega
   have wr3 : (J : Int) ≤ (cap0 : Int) := by have := HIK.out; omega
   have wr4 : (K : Int) ≤ max (J : Int) 0 := by have := HIK.out; omega
   have wr5 : ¬ cap0 = K := by have := HKJ.out; omega
   have wr6 : J - K = 4 := by have := HKJ.out; omega
   have wr7 : (K : Int) ≤ (J : Int) := by have := HIK.out; omega
   have wr8 : K - q = m := by have := HKJ.out; omega
   have wr9 : (q : Int) ≤ (K : Int) := by have := HIK.out; omega
   have wrA : (K : Int) ≤ (cap0 : Int) := by have := HIK.out; omega
   have hJx : J ≤ xs.length := by have := HIK.out; omega
   go_wp2_with fail
   refine wp_region_held_drew (S := fun w' => (convert 22 9 (.slice (some ⟨b, off + K, none⟩) 4 (cap0 - K))).run Tryz.prog w' = .ok (.string T) w') (by kernel_rfl) (HCV.out _ (Below.drew B0.out)) (fun hHeld => ?_)
   refine Ke.y 0 rfl (fun _ _ _ h => h) ?_
   try simp only [Act.put, pu1, pu2, pu3, pu4, pu5, pu6]
   refine Ke.y 1 rfl (fun _ _ _ h => h) ?_
   try simp only [Act.put, pu1, pu2, pu3, pu4, pu5, pu6]
   refine Ke.y 2 rfl (fun _ _ _ h => h) ?_
   try simp only [Act.put, pu1, pu2, pu3, pu4, pu5, pu6]
   refine Ke.y 3 rfl (fun _ _ _ h => h) ?_
   try simp only [Act.put, pu1, pu2, pu3, pu4, pu5, pu6]
   refine Ke.y 4 rfl (fun _ _ _ h => h) ?_
   try simp only [Act.put, pu1, pu2, pu3, pu4, pu5, pu6]
   refine Ke.y 5 rfl (fun _ _ _ h => h) ?_
   try simp only [Act.put, pu1, pu2, pu3, pu4, pu5, pu6]
   refine Ke.z 6 rfl (fun K hK => ?_)
   go_simp
   refine (qd w.drew _ (HG.out.later (Below.drew B0.out)) (Sl.later (w := w) f_Y0.out (Below.drew (Below.refl _ _)))).mono ?_
   rintro e W1 ⟨rfl, b1⟩
   have b1 : Below w.heap.size w W1 := (Below.drew (Below.refl _ _)).trans b1
   refine hK.out _ _ (HCV.out _ (B0.out.trans (b1.mono B0.out.size))) (fun hHeld => ?_)
   clear hK K
   try simp only [Act.put, pu1, pu2, pu3, pu4, pu5, pu6]
   have z1 := b1.size
   have B1 := Ke.b B0 b1
   clear f_Y0
   clear qd
   by_cases hT : T = D4
   ·
    have HY6 : Hid (G = cutC xs a q m) := by show _ = _; rw [← HGG.out, HIY.out, if_pos hT]
    clear HIY HD4 HTT HCV
    subst hT
    have te : (T.toList == T.toList) = true := by simp
    refine Ke.y 7 rfl (fun _ _ _ h => h) ?_
    try simp only [Act.put, pu1, pu2, pu3, pu4, pu5, pu6]
    refine Ke.z 8 rfl (fun K hK => ?_)
    go_simp
    refine (giveup_yes W1).mono ?_
    rintro e W_ ⟨rfl, hW_⟩
    subst hW_
    refine hK.out _ _ hHeld (fun hHeld => ?_)
    clear hK K
    try simp only [Act.put, pu1, pu2, pu3, pu4, pu5, pu6]
    refine wpAnyH_done (by kernel_rfl) ?_ _
    clear hHeld
    go_wp2
    go_ret2
    have e7 : q + m + 4 = J := by have := HKJ.out; omega
    exact ⟨Or.inr ⟨q, m, b, off, cap0, rfl, by rw [e7]; rfl, by rw [e7]; exact hJx, HY6.out⟩, B1.out⟩
   ·
    have HY6 : Hid (G = no12 a) := by show _ = _; rw [← HGG.out, HIY.out, if_neg hT]
    clear HIY HD4 HTT HCV
    have hTl : (T.toList == D4.toList) = false := by rw [beq_eq_false_iff_ne]; exact fun h9 => hT (toList_inj12 h9)
    refine Ke.y 7 rfl (fun _ _ _ h => h) ?_
    try simp only [Act.put, pu1, pu2, pu3, pu4, pu5, pu6]
    refine Ke.z 8 rfl (fun K hK => ?_)
    go_simp
    refine (giveup_no W1 (HN.out.later B1.out)).mono ?_
    rintro e W_ ⟨⟨u9, x9, rfl⟩, hW_⟩
    subst hW_
    go_simp
    exact ⟨rfl, Or.inl ⟨⟨_, _, rfl⟩, HY6.out⟩, B1.out⟩
  ·
   have dc : decide ((m : Int) ≤ (xs.length : Int) - (q : Int) - 4) = false := decide_eq_false hcc
   have HNO : Hid (G = no12 a) := by show _ = _; rw [← HGG.out]; unfold getC; rw [HGN.out, if_neg (fun h9 => hcc h9.2)]
   go_wp2_with fail
   refine (giveup_no w (HN.out.later B0.out)).mono ?_
   rintro e W_ ⟨⟨u9, x9, rfl⟩, hW_⟩
   subst hW_
   go_wp2
   exact ⟨rfl, Or.inl ⟨⟨_, _, rfl⟩, HNO.out⟩, B0.out⟩
set_option maxRecDepth 1000000 in
set_option maxHeartbeats 8000000 in
theorem readb_impl (w : World) (v : Value) (Y : List Int) (hN : NoC w) (hs : Sl w v (bs Y)) (hb : Byt Y) (hx : Y.length ≤ 1000000000000) :
  Calls Tryz.prog 158 #[v] w fun e w' => (((∃ u x, e = .panicked [{ v := .iface u x, recovered := false }]) ∧ inBody Y = none) ∨ (∃ (h : Hd) (x : List ByteArray) (u : Value), e = .returned (.tuple #[.agg #[.int .i64 h.n, .string h.r], u]) ∧ inBody Y = some (h, x) ∧ Own w' w.heap.size w'.heap.size 9 u (ss x))) ∧ Below w.heap.size w w' := by
 have HS : Hid (Sl w v (bs Y)) := hs
 have HBY : Hid (Byt Y) := hb
 have HN : Hid (NoC w) := hN
 obtain ⟨ao0, cap0, rfl, hc0⟩ := hs.form
 rw [bs_len] at *
 clear hs hb hN
 have B0 : Hid (Below w.heap.size w w) := Below.refl _ _
 obtain ⟨i9, hi9, hz9a, hz9b, hz9c⟩ := info_parts info9t
 obtain ⟨W1, HW1, b1, y1, hS1, r_res1⟩ := Ke.l1 w #[.int .i64 0, .string ⟨#[]⟩] 26
 have z1 := b1.size
 have B1 := Ke.b B0 b1
 have q2 := Gets.get_impl W1 _ Y 0 (HS.out.later B1.out) HBY.out (by omega) (by omega) (by omega)
 obtain ⟨n2, p2, ok2, hg2⟩ : ∃ n p ok, Plain.getNum Y 0 = (n, p, ok) := ⟨_, _, _, rfl⟩
 simp only [hg2] at q2
 have HG2 : Hid (Plain.getNum Y 0 = (n2, p2, ok2)) := hg2
 have sm2 := getNum_small Y 0
 rw [hg2] at sm2
 simp only at sm2
 clear hg2
 have q3 := GetT.text_impl W1 _ Y p2 (HS.out.later B1.out) HBY.out (by omega) (by omega) (by omega)
 obtain ⟨s3, p3, ok3, hg3⟩ : ∃ n p ok, Plain.getText Y p2 = (n, p, ok) := ⟨_, _, _, rfl⟩
 simp only [hg3] at q3
 have HG3 : Hid (Plain.getText Y p2 = (s3, p3, ok3)) := hg3
 have sm3 := getText_small Y p2
 rw [hg3] at sm3
 simp only at sm3
 clear hg3
 have q4 := GetTs.texts_impl W1 _ Y p3 (HS.out.later B1.out) HBY.out (by omega) (by omega) (by omega)
 obtain ⟨l4, p4, ok4, hg4⟩ : ∃ n p ok, Plain.getTexts Y p3 = (n, p, ok) := ⟨_, _, _, rfl⟩
 unfold GetTs.Done at q4
 simp only [hg4] at q4
 have HG4 : Hid (Plain.getTexts Y p3 = (l4, p4, ok4)) := hg4
 have sm4 := Plain.getTexts_len Y p3
 rw [hg4] at sm4
 simp only at sm4
 clear hg4
 obtain ⟨G, hG⟩ : ∃ G, inBody Y = G := ⟨_, rfl⟩
 rw [hG]
 have HIF : Hid (¬ (ok2 = true ∧ ok3 = true ∧ ok4 = true ∧ p4 = (Y.length : Int) ∧ okH ⟨n2, s3⟩ = true ∧ ¬ l4.length = 0) → G = none) := by
  intro hnot
  rw [← hG]
  unfold inBody
  rw [HG2.out]
  simp only
  rw [HG3.out]
  simp only
  rw [HG4.out]
  exact if_neg hnot
 have HIY : Hid (ok2 = true → ok3 = true → ok4 = true → p4 = (Y.length : Int) → okH ⟨n2, s3⟩ = true → ¬ l4.length = 0 → G = some (⟨n2, s3⟩, l4)) := by
  intro h1 h2 h3 h4 h5 h6
  rw [← hG]
  unfold inBody
  rw [HG2.out]
  simp only
  rw [HG3.out]
  simp only
  rw [HG4.out]
  exact if_pos ⟨h1, h2, h3, h4, h5, h6⟩
 clear hG
 go_enter Tryz.func158, Tryz.ntmps158
 go_wp2_with fail
 rw [HW1.out]
 refine (q2).mono ?_
 rintro e W_ ⟨rfl, hW_⟩
 have hW_ := hW_.symm
 subst hW_
 clear q2
 cases ok2
 ·
  have HNO : Hid (G = none) := HIF.out (by rintro ⟨h1, h2, h3, h4, h5, h6⟩; cases h1)
  go_wp2_with fail
  refine (giveup_no W1 (HN.out.later B1.out)).mono ?_
  rintro e W_ ⟨⟨u9, x9, rfl⟩, hW_⟩
  subst hW_
  go_wp2
  exact ⟨rfl, Or.inl ⟨⟨_, _, rfl⟩, HNO.out⟩, B1.out⟩
 ·
  go_wp2_with fail
  refine (giveup_yes W1).mono ?_
  rintro e W_ ⟨rfl, hW_⟩
  subst hW_
  go_wp2_with fail
  refine (q3).mono ?_
  rintro e W_ ⟨rfl, hW_⟩
  have hW_ := hW_.symm
  subst hW_
  clear q3
  cases ok3
  ·
   have HNO : Hid (G = none) := HIF.out (by rintro ⟨h1, h2, h3, h4, h5, h6⟩; cases h2)
   go_wp2_with fail
   refine (giveup_no W1 (HN.out.later B1.out)).mono ?_
   rintro e W_ ⟨⟨u9, x9, rfl⟩, hW_⟩
   subst hW_
   go_wp2
   exact ⟨rfl, Or.inl ⟨⟨_, _, rfl⟩, HNO.out⟩, B1.out⟩
  ·
   go_wp2_with fail
   refine (giveup_yes W1).mono ?_
   rintro e W_ ⟨rfl, hW_⟩
   subst hW_
   go_wp2_with fail
   refine (q4).mono ?_
   rintro e W2 ⟨v_t, rfl, o_t2, b2⟩
   obtain ⟨ao_t, L_t, cap_t, rfl, hL_t, hM_t⟩ := o_t2.form
   have o_t2 : Hid (Own W2 W1.heap.size W2.heap.size 9 (.slice ao_t L_t cap_t) (ss l4)) := o_t2
   clear hL_t hM_t
   have z2 := b2.size
   have B2 := Ke.b B1 b2
   have r_res2 := Ke.r r_res1 b2
   clear r_res1
   clear q4
   have hLt : L_t ≤ l4.length ∧ l4.length ≤ L_t := by obtain ⟨a9, L9, c9, he, h1, h2⟩ := Mem.Own.form o_t2.out; injection he with _ he2 _; rw [ss_len] at h1 h2; omega
   cases ok4
   ·
    have HNO : Hid (G = none) := HIF.out (by rintro ⟨h1, h2, h3, h4, h5, h6⟩; cases h3)
    go_wp2_with fail
    refine (giveup_no W2 (HN.out.later B2.out)).mono ?_
    rintro e W_ ⟨⟨u9, x9, rfl⟩, hW_⟩
    subst hW_
    go_wp2
    exact ⟨rfl, Or.inl ⟨⟨_, _, rfl⟩, HNO.out⟩, B2.out⟩
   ·
    by_cases hp : p4 = (Y.length : Int)
    ·
     have pe : (p4 == (Y.length : Int)) = true := by rw [beq_iff_eq]; exact hp
     have HP : Hid (p4 = (Y.length : Int)) := hp
     clear hp
     go_wp2_with fail
     refine (giveup_yes W2).mono ?_
     rintro e W_ ⟨rfl, hW_⟩
     subst hW_
     obtain ⟨W3, HW3, b3, y3, hS3, r_h3⟩ := Ke.l1 W2 #[.int .i64 n2, .string s3] 26
     have z3 := b3.size
     have B3 := Ke.b B2 b3
     have r_res3 := Ke.r r_res2 b3
     have o_t3 := Ke.o o_t2 b3
     clear r_res2 o_t2
     have qh : ∀ W v1, Sl W v1 (ss l4) → _ := fun W v1 h1 => iscommit_impl W (⟨n2, s3⟩ : Hd) v1 l4 h1 (by omega) (by show s3.size ≤ _; omega)
     have hE := isC_iff ⟨n2, s3⟩ l4
     obtain ⟨E, hEE⟩ : ∃ E, isC ⟨n2, s3⟩ l4 = E := ⟨_, rfl⟩
     simp only [hEE] at qh hE
     have HE : Hid (E = true ↔ okH ⟨n2, s3⟩ = true ∧ 1 ≤ l4.length ∧ l4.length ≤ 200) := hE
     clear hE hEE
     go_wp2_with fail
     rw [HW3.out]
     refine (qh W3 _ o_t3.out.sl).mono ?_
     rintro e W4 ⟨rfl, b4⟩
     have z4 := b4.size
     have B4 := Ke.b B3 b4
     have r_res4 := Ke.r r_res3 b4
     have r_h4 := Ke.r r_h3 b4
     have o_t4 := Ke.o o_t3 b4
     clear r_res3 r_h3 o_t3
     clear qh
     cases E
     ·
      have HNO : Hid (G = none) := HIF.out (by rintro ⟨h1, h2, h3, h4, h5, h6⟩; exact absurd (HE.out.2 ⟨h5, by omega, by omega⟩) (by simp))
      go_wp2_with fail
      refine (giveup_no W4 (HN.out.later B4.out)).mono ?_
      rintro e W_ ⟨⟨u9, x9, rfl⟩, hW_⟩
      subst hW_
      go_wp2
      exact ⟨rfl, Or.inl ⟨⟨_, _, rfl⟩, HNO.out⟩, B4.out⟩
     ·
      have hE := HE.out.1 rfl
      have HNY : Hid (G = some (⟨n2, s3⟩, l4)) := HIY.out (by trivial) (by trivial) (by trivial) HP.out hE.1 (by omega)
      clear hE HIY HIF HE
      go_wp2_with fail
      refine (giveup_yes W4).mono ?_
      rintro e W_ ⟨rfl, hW_⟩
      subst hW_
      go_wp2_with (first | (refine wpList_load_row rfl 26 _ rfl (W2.heap.size) rfl 26 (hc ⟨n2, s3⟩) (0, 0) _ r_h4.out Tryz.underlying26 rfl (sizeH _) ?_) | (refine wpList_store_row rfl 26 _ _ rfl (w.heap.size) (hc ⟨n2, s3⟩) rfl rfl 26 _ r_res4.out (sizeH _) rfl (oneH _) ?_))
      refine bodyPost_ret (res_row_tmp rfl _ _ (w.heap.size) 26 (hc ⟨n2, s3⟩) (0, 0) _ rfl (setRow_heap _ _ _ _ _ (0, 0) r_res4.out) Tryz.underlying26 rfl (sizeH _)) rfl ⟨Or.inr ⟨⟨n2, s3⟩, l4, .slice ao_t L_t cap_t, rfl, HNY.out, ?_⟩, below_setRow B4.out (by omega) _⟩
      exact (Own.setRow o_t4.out _ (by omega)).mono (by omega) (by rw [size_setRow]; omega)
    ·
     have pe : (p4 == (Y.length : Int)) = false := by rw [beq_eq_false_iff_ne]; exact hp
     have HNO : Hid (G = none) := HIF.out (by rintro ⟨h1, h2, h3, h4, h5, h6⟩; exact hp h4)
     go_wp2_with fail
     refine (giveup_no W2 (HN.out.later B2.out)).mono ?_
     rintro e W_ ⟨⟨u9, x9, rfl⟩, hW_⟩
     subst hW_
     go_wp2
     exact ⟨rfl, Or.inl ⟨⟨_, _, rfl⟩, HNO.out⟩, B2.out⟩
end Go.Proofs.YtchonoonclllbaaGreatDoor.Sr
