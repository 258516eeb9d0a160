/- Chapter 4: the law FnModules, over contracts of the landed functions. -/
import Derived.Test.YtnoopfpgkgjdcabMod6
import Derived.Test.YtnoopfpgkgjdcabMod8
namespace Go.Proofs.Ytnoopfpgkgjdcab.Mod
open Go.RowKit Go.Proofs.Ytnoopfpgkgjdcab.Mem Go.Proofs.Ytnoopfpgkgjdcab.Laws Go.Proofs.Ytnoopfpgkgjdcab.Bytes Go.Proofs.Ytnoopfpgkgjdcab.Sha Go.Proofs.Ytnoopfpgkgjdcab.Draw Go.Proofs.Ytnoopfpgkgjdcab.Ver
set_option linter.unusedVariables false
set_option linter.unusedSimpArgs false

theorem fits4_facts {s : ByteArray} {a b c : Int} {p : ByteArray} (h : fits4 s a b c p = true) : path4 (sb s) = true ∧ okV a b c p = true ∧ a ≤ major4 s ∧ (1 < major4 s → a = major4 s) := by
  unfold fits4 at h
  simp only [Bool.and_eq_true, Bool.or_eq_true, decide_eq_true_eq] at h
  obtain ⟨⟨h1, h2⟩, h3⟩ := h
  refine ⟨?_, h2, by omega, by omega⟩
  by_cases hp : path4 (sb s) = true
  · exact hp
  · unfold major4 at h1
    rw [if_neg hp] at h1
    omega
theorem major4_ok (s : ByteArray) : (path4 (sb s) = true ∧ 0 < major4 s) ∨ (path4 (sb s) = false ∧ major4 s = 0) := by
  have h := maj4_bd s
  by_cases hp : path4 (sb s) = true
  · refine .inl ⟨hp, ?_⟩
    unfold major4
    rw [if_pos hp]
    split <;> omega
  · refine .inr ⟨by simpa using hp, ?_⟩
    unfold major4
    rw [if_neg hp]
theorem major4_one {s : ByteArray} (hp : path4 (sb s) = true) (h : ¬ 1 < major4 s) : base4 s = s := by
  refine (base4_form hp).2.2.2 ?_
  have h1 := maj4_bd s
  unfold major4 at h
  rw [if_pos hp] at h
  split at h
  · rename_i h0; exact h0
  · omega
theorem base4_no {s : ByteArray} (hp : path4 (sb s) = false) : base4 s = ⟨#[]⟩ := by
  unfold base4
  rw [if_neg (by rw [hp]; simp)]

set_option maxRecDepth 1000000 in
set_option maxHeartbeats 8000000 in
theorem modules (w : World) (v0 : Value) (xs0 : List Int) (h0 : Sl w v0 (bs xs0)) (y0 : Byt xs0) (m0 : xs0.length ≤ maxLen)
    (iM : ∀ W, Below w.heap.size w W → ∀ s : ByteArray, s.size ≤ 60 → Calls Try.prog 17 #[.string s] W fun e w' => e = .returned (.int .i64 (major4 s)) ∧ Below W.heap.size W w')
    (iP : ∀ W, Below w.heap.size w W → ∀ s : ByteArray, s.size ≤ 60 → Calls Try.prog 18 #[.string s] W fun e w' => e = .returned (.bool (path4 (sb s))) ∧ Below W.heap.size W w')
    (iF : ∀ W, Below w.heap.size w W → ∀ (s : ByteArray) (a b c : Int) (p : ByteArray), s.size ≤ 60 → p.size ≤ 9 → Calls Try.prog 21 #[.string s, .agg #[.int .i64 a, .int .i64 b, .int .i64 c, .string p]] W fun e w' => e = .returned (.bool (fits4 s a b c p)) ∧ Below W.heap.size W w')
    (iV : ∀ W, Below w.heap.size w W → ∀ (a b c : Int) (p : ByteArray), p.size ≤ 9 → Calls Try.prog 15 #[.agg #[.int .i64 a, .int .i64 b, .int .i64 c, .string p]] W fun e w' => e = .returned (.bool (okV a b c p)) ∧ Below W.heap.size W w')
    (iB : ∀ W, Below w.heap.size w W → ∀ s : ByteArray, s.size ≤ 60 → Calls Try.prog 23 #[.string s] W fun e w' => e = .returned (.string (base4 s)) ∧ Below W.heap.size W w') :
    Calls Try.prog 5 #[v0] w fun e w' => e = .returned (.bool true) ∧ Below w.heap.size w w' := by
  unfold maxLen at m0
  by_cases hbig : 1048576 < xs0.length
  · obtain ⟨ao, cap, rfl, _, _, _⟩ := h0
    rw [bs_len]
    go_enter Try.func5, Try.ntmps5
    go_wp2_with (go_at_call 6; refine (big_yes _ _ _ _ hbig).mono ?_; rintro e w1 ⟨rfl, rfl⟩)
    go_ret
    exact ⟨rfl, Below.refl _ _⟩
  have q1 := fits_drawn w v0 xs0 h0 y0 (by omega)
  obtain ⟨ao, cap, rfl, _, _, _⟩ := h0
  rw [bs_len] at q1 ⊢
  go_enter Try.func5, Try.ntmps5
  go_wp2_with fail
  refine (big_no _ _ _ _ hbig).mono ?_
  rintro e w0 ⟨rfl, rfl⟩
  go_wp2_with fail
  refine q1.mono ?_
  rintro e W1 ⟨s, a, b, c, p, rfl, hsz, hA, B0⟩
  have hpz := hA.2.2.2
  clear q1 hA
  have R : Vr (W1.alloc (.cells #[.int .i64 a, .int .i64 b, .int .i64 c, .string p] 25)) W1.heap.size a b c p := heap_alloc_new W1 _
  have B : Below w.heap.size w (W1.alloc (.cells #[.int .i64 a, .int .i64 b, .int .i64 c, .string p] 25)) := B0.alloc B0.size _
  have hmk := major4_ok s
  have HFF : Hid (fits4 s a b c p = true → path4 (sb s) = true ∧ okV a b c p = true ∧ a ≤ major4 s ∧ (1 < major4 s → a = major4 s)) := fits4_facts
  have HBF : Hid (path4 (sb s) = true → path4 (sb (base4 s)) = true ∧ (base4 s).size ≤ s.size ∧ s.extract 0 (base4 s).size = base4 s ∧ (¬ 1 < major4 s → base4 s = s)) := fun h => ⟨(base4_form h).1, (base4_form h).2.1, (base4_form h).2.2.1, fun k => major4_one h k⟩
  have HBN : Hid (path4 (sb s) = false → base4 s = ⟨#[]⟩) := base4_no
  have jM : ∀ W, Below w.heap.size w W → _ := fun W h => iM W h s hsz
  have jP : ∀ W, Below w.heap.size w W → _ := fun W h => iP W h s hsz
  have jF : ∀ W, Below w.heap.size w W → _ := fun W h => iF W h s a b c p hsz hpz
  have jV : ∀ W, Below w.heap.size w W → _ := fun W h => iV W h a b c p hpz
  have jB : ∀ W, Below w.heap.size w W → _ := fun W h => iB W h s hsz
  have sP : ∀ W, _ := fun W => path_spec W s (by omega)
  have sM : ∀ W, _ := fun W => major_spec W s (by omega)
  have sF : ∀ W, _ := fun W => fits_spec W s a b c p (by omega) (by omega)
  have jQ : path4 (sb s) = true → ∀ W, Below w.heap.size w W → Calls Try.prog 18 #[.string (base4 s)] W fun e w' => e = .returned (.bool true) ∧ Below W.heap.size W w' := fun hp W h => by
    have := iP W h (base4 s) (by have := (HBF.out hp).2.1; omega)
    rw [(HBF.out hp).1] at this
    exact this
  unfold ver at sF
  clear iM iP iF iV iB
  obtain ⟨ok, hok⟩ : ∃ x, path4 (sb s) = x := ⟨_, rfl⟩
  obtain ⟨M, hM⟩ : ∃ x, major4 s = x := ⟨_, rfl⟩
  obtain ⟨F, hF⟩ : ∃ x, fits4 s a b c p = x := ⟨_, rfl⟩
  obtain ⟨V, hV⟩ : ∃ x, okV a b c p = x := ⟨_, rfl⟩
  obtain ⟨b4, hb4⟩ : ∃ x, base4 s = x := ⟨_, rfl⟩
  simp only [hok] at jP sP
  simp only [hM] at jM sM
  simp only [hF] at jF sF
  simp only [hV] at jV
  simp only [hb4] at jB
  rw [hok, hM] at hmk
  rw [hb4] at jQ HBF HBN
  rw [hF, hok, hV, hM] at HFF
  rw [hok, hM] at HBF
  rw [hok] at HBN jQ
  clear hok hM hF hV hb4 B0
  go_wp2_with fail
  refine (jM _ B).mono ?_
  rintro e W2 ⟨rfl, bw⟩
  replace R := Vr.same R bw
  replace B : Below w.heap.size w W2 := B.trans (bw.mono B.size)
  clear bw
  go_wp2_with fail
  refine (jP _ B).mono ?_
  rintro e W3 ⟨rfl, bw⟩
  replace R := Vr.same R bw
  replace B : Below w.heap.size w W3 := B.trans (bw.mono B.size)
  clear bw
  rcases hmk with ⟨rfl, hm⟩ | ⟨rfl, rfl⟩
  · have dm : decide (M > 0) = true := by simpa using hm
    have dm' : decide (0 < M) = true := by simpa using hm
    have nn : (M != M) = false := by simp
    obtain ⟨f1, f2, f3, f4'⟩ := HBF.out rfl
    have HF4 : Hid (¬ 1 < M → b4 = s) := fun h => f4' (by omega)
    clear f4'
    replace jQ := jQ rfl
    clear HBF HBN
    go_wp2_with fail
    obtain ⟨k0, k1, k2, k3⟩ := Vr.cells R
    go_region_held3 (fun w' => Below w.heap.size w w' ∧ w'.cell? ⟨W1.heap.size, 0, none⟩ = some (.int .i64 a) ∧ w'.cell? ⟨W1.heap.size, 1, none⟩ = some (.int .i64 b) ∧ w'.cell? ⟨W1.heap.size, 2, none⟩ = some (.int .i64 c) ∧ w'.cell? ⟨W1.heap.size, 3, none⟩ = some (.string p))
      (first | exact ⟨Below.drew B, k0, k1, k2, k3⟩ | go_keep | (go_split_ands; exact ⟨by rename_i hB1 _ _ _ _; exact Below.trans hB1 (bb5.mono hB1.size), keepCell (by assumption) bb5, keepCell (by assumption) bb5, keepCell (by assumption) bb5, keepCell (by assumption) bb5⟩) | (go_split_ands; exact ⟨by rename_i hB1 _ _ _ _; exact Below.trans hB1 (bb6.mono hB1.size), keepCell (by assumption) bb6, keepCell (by assumption) bb6, keepCell (by assumption) bb6, keepCell (by assumption) bb6⟩) | (go_split_ands; exact ⟨by rename_i hB1 _ _ _ _; exact Below.trans hB1 (bb7.mono hB1.size), keepCell (by assumption) bb7, keepCell (by assumption) bb7, keepCell (by assumption) bb7, keepCell (by assumption) bb7⟩) | (go_split_ands; exact ⟨by rename_i hB1 _ _ _ _; exact Below.trans hB1 (bb8.mono hB1.size), keepCell (by assumption) bb8, keepCell (by assumption) bb8, keepCell (by assumption) bb8, keepCell (by assumption) bb8⟩))
      (first | (go_at_call 19; refine (sP _).mono ?_; rintro e5 w5 ⟨rfl, bb5⟩) | (go_at_call 20; refine (sM _).mono ?_; rintro e6 w6 ⟨rfl, bb6⟩) | (go_at_call 21; refine (jF _ (by first | assumption | (go_split_ands; assumption))).mono ?_; rintro e7 w7 ⟨rfl, bb7⟩) | (go_at_call 22; refine (sF _).mono ?_; rintro e8 w8 ⟨rfl, bb8⟩))
    clear k0 k1 k2 k3
    have C5 : Below w.heap.size w w5 := (Below.drew B).trans (bb5.mono B.size)
    have C6 : Below w.heap.size w w6 := C5.trans (bb6.mono C5.size)
    have C7 : Below w.heap.size w w7 := C6.trans (bb7.mono C6.size)
    have C8 : Below w.heap.size w w8 := C7.trans (bb8.mono C7.size)
    replace R : Vr w8 W1.heap.size a b c p := Vr.same (Vr.same (Vr.same (Vr.same (w := W3.drew) R bb5) bb6) bb7) bb8
    replace B := C8
    clear C5 C6 C7 C8 bb5 bb6 bb7 bb8
    obtain ⟨k0, k1, k2, k3⟩ := Vr.cells R
    cases F
    · clear HFF
      go_wp2_with fail
      refine (jF _ B).mono ?_
      rintro e W4 ⟨rfl, bw⟩
      replace R := Vr.same R bw
      replace B : Below w.heap.size w W4 := B.trans (bw.mono B.size)
      clear bw
      clear k0 k1 k2 k3
      obtain ⟨k0, k1, k2, k3⟩ := Vr.cells R
      go_wp2_with fail
      refine (jB _ B).mono ?_
      rintro e W5 ⟨rfl, bw⟩
      replace R := Vr.same R bw
      replace B : Below w.heap.size w W5 := B.trans (bw.mono B.size)
      clear bw
      clear k0 k1 k2 k3
      clear jV jF jM jP jB sP sM sF
      have z1 : decide ((b4.size : Int) ≤ (s.size : Int)) = true := by simp; omega
      have z2 : (b4.toList == b4.toList) = true := by simp
      go_wp2_with fail
      refine (jQ _ B).mono ?_
      rintro e W6 ⟨rfl, bw⟩
      replace R := Vr.same R bw
      replace B : Below w.heap.size w W6 := B.trans (bw.mono B.size)
      clear bw
      by_cases h1 : 1 < M
      · have d1 : decide (M > 1) = true := by simpa using h1
        clear HF4
        go_wp2
        go_ret
        exact ⟨by simp, B⟩
      · have d1 : decide (M > 1) = false := by simpa using h1
        have z3 : (b4.toList == s.toList) = true := by rw [HF4.out (by omega)]; simp
        clear HF4
        go_wp2
        go_ret
        exact ⟨by simp, B⟩
    · obtain ⟨_, hv, ha, hm1⟩ := HFF.out rfl
      subst hv
      clear HFF
      have da : decide (a > M) = false := by simp; omega
      go_wp2_with fail
      refine (jF _ B).mono ?_
      rintro e W7 ⟨rfl, bw⟩
      replace R := Vr.same R bw
      replace B : Below w.heap.size w W7 := B.trans (bw.mono B.size)
      clear bw
      clear k0 k1 k2 k3
      obtain ⟨k0, k1, k2, k3⟩ := Vr.cells R
      go_wp2_with fail
      refine (jV _ B).mono ?_
      rintro e W8 ⟨rfl, bw⟩
      replace R := Vr.same R bw
      replace B : Below w.heap.size w W8 := B.trans (bw.mono B.size)
      clear bw
      clear k0 k1 k2 k3
      obtain ⟨k0, k1, k2, k3⟩ := Vr.cells R
      clear jV jF jM jP sP sM sF
      by_cases h9 : 1 < M
      · have d9 : decide (M > 1) = true := by simpa using h9
        have e9 : (a != M) = false := by simp [hm1 h9]
        go_wp2_with fail
        refine (jB _ B).mono ?_
        rintro e W9 ⟨rfl, bw⟩
        replace R := Vr.same R bw
        replace B : Below w.heap.size w W9 := B.trans (bw.mono B.size)
        clear bw
        clear k0 k1 k2 k3
        have z1 : decide ((b4.size : Int) ≤ (s.size : Int)) = true := by simp; omega
        have z2 : (b4.toList == b4.toList) = true := by simp
        go_wp2_with fail
        refine (jQ _ B).mono ?_
        rintro e W10 ⟨rfl, bw⟩
        replace R := Vr.same R bw
        replace B : Below w.heap.size w W10 := B.trans (bw.mono B.size)
        clear bw
        clear HF4
        go_wp2
        go_ret
        exact ⟨by simp, B⟩
      · have d9 : decide (M > 1) = false := by simpa using h9
        go_wp2_with fail
        refine (jB _ B).mono ?_
        rintro e W11 ⟨rfl, bw⟩
        replace R := Vr.same R bw
        replace B : Below w.heap.size w W11 := B.trans (bw.mono B.size)
        clear bw
        clear k0 k1 k2 k3
        have z1 : decide ((b4.size : Int) ≤ (s.size : Int)) = true := by simp; omega
        have z2 : (b4.toList == b4.toList) = true := by simp
        go_wp2_with fail
        refine (jQ _ B).mono ?_
        rintro e W12 ⟨rfl, bw⟩
        replace R := Vr.same R bw
        replace B : Below w.heap.size w W12 := B.trans (bw.mono B.size)
        clear bw
        have z3 : (b4.toList == s.toList) = true := by rw [HF4.out (by omega)]; simp
        clear HF4
        go_wp2
        go_ret
        exact ⟨by simp, B⟩
  · have hb0 := HBN.out rfl
    subst hb0
    have hF : F = false := by
      cases F with
      | false => rfl
      | true => exact absurd (HFF.out rfl).1 (by simp)
    subst hF
    clear HFF HBF HBN jQ
    go_wp2_with fail
    obtain ⟨k0, k1, k2, k3⟩ := Vr.cells R
    go_region_held3 (fun w' => Below w.heap.size w w' ∧ w'.cell? ⟨W1.heap.size, 0, none⟩ = some (.int .i64 a) ∧ w'.cell? ⟨W1.heap.size, 1, none⟩ = some (.int .i64 b) ∧ w'.cell? ⟨W1.heap.size, 2, none⟩ = some (.int .i64 c) ∧ w'.cell? ⟨W1.heap.size, 3, none⟩ = some (.string p))
      (first | exact ⟨Below.drew B, k0, k1, k2, k3⟩ | go_keep | (go_split_ands; exact ⟨by rename_i hB1 _ _ _ _; exact Below.trans hB1 (bb5.mono hB1.size), keepCell (by assumption) bb5, keepCell (by assumption) bb5, keepCell (by assumption) bb5, keepCell (by assumption) bb5⟩) | (go_split_ands; exact ⟨by rename_i hB1 _ _ _ _; exact Below.trans hB1 (bb6.mono hB1.size), keepCell (by assumption) bb6, keepCell (by assumption) bb6, keepCell (by assumption) bb6, keepCell (by assumption) bb6⟩) | (go_split_ands; exact ⟨by rename_i hB1 _ _ _ _; exact Below.trans hB1 (bb7.mono hB1.size), keepCell (by assumption) bb7, keepCell (by assumption) bb7, keepCell (by assumption) bb7, keepCell (by assumption) bb7⟩) | (go_split_ands; exact ⟨by rename_i hB1 _ _ _ _; exact Below.trans hB1 (bb8.mono hB1.size), keepCell (by assumption) bb8, keepCell (by assumption) bb8, keepCell (by assumption) bb8, keepCell (by assumption) bb8⟩))
      (first | (go_at_call 19; refine (sP _).mono ?_; rintro e5 w5 ⟨rfl, bb5⟩) | (go_at_call 20; refine (sM _).mono ?_; rintro e6 w6 ⟨rfl, bb6⟩) | (go_at_call 21; refine (jF _ (by first | assumption | (go_split_ands; assumption))).mono ?_; rintro e7 w7 ⟨rfl, bb7⟩) | (go_at_call 22; refine (sF _).mono ?_; rintro e8 w8 ⟨rfl, bb8⟩))
    clear k0 k1 k2 k3
    have C5 : Below w.heap.size w w5 := (Below.drew B).trans (bb5.mono B.size)
    have C6 : Below w.heap.size w w6 := C5.trans (bb6.mono C5.size)
    have C7 : Below w.heap.size w w7 := C6.trans (bb7.mono C6.size)
    have C8 : Below w.heap.size w w8 := C7.trans (bb8.mono C7.size)
    replace R : Vr w8 W1.heap.size a b c p := Vr.same (Vr.same (Vr.same (Vr.same (w := W3.drew) R bb5) bb6) bb7) bb8
    replace B := C8
    clear C5 C6 C7 C8 bb5 bb6 bb7 bb8
    obtain ⟨k0, k1, k2, k3⟩ := Vr.cells R
    go_wp2_with fail
    refine (jF _ B).mono ?_
    rintro e W13 ⟨rfl, bw⟩
    replace R := Vr.same R bw
    replace B : Below w.heap.size w W13 := B.trans (bw.mono B.size)
    clear bw
    clear k0 k1 k2 k3
    obtain ⟨k0, k1, k2, k3⟩ := Vr.cells R
    go_wp2_with fail
    refine (jB _ B).mono ?_
    rintro e W14 ⟨rfl, bw⟩
    replace R := Vr.same R bw
    replace B : Below w.heap.size w W14 := B.trans (bw.mono B.size)
    clear bw
    clear k0 k1 k2 k3
    go_wp2
    go_ret
    exact ⟨by simp, B⟩

end Go.Proofs.Ytnoopfpgkgjdcab.Mod
