/- Texts in one: EfD. -/
import Derived.Test.YtepcpnnnhdbjgamPk12
import Derived.Test.YtepcpnnnhdbjgamPk18
import Derived.Test.YtepcpnnnhdbjgamPk14
import Derived.Test.YtepcpnnnhdbjgamPk17
/- Chapter 5, the landed code: a need read of its name. -/
namespace Go.Proofs.Ytepcpnnnhdbjgam.Ent
open Go.RowKit Go.Proofs.Ytepcpnnnhdbjgam.Mem Go.Proofs.Ytepcpnnnhdbjgam.Laws Go.Proofs.Ytepcpnnnhdbjgam.Bytes Go.Proofs.Ytepcpnnnhdbjgam.Sha Go.Proofs.Ytepcpnnnhdbjgam.Ver Go.Proofs.Ytepcpnnnhdbjgam.Mod
set_option linter.unusedVariables false
set_option linter.unusedSimpArgs false

theorem parseV_nil : parseV ⟨#[]⟩ = ((0, 0, 0, ⟨#[]⟩), false) := by
  unfold parseV
  rw [if_neg (by intro h; simp [sb] at h)]
theorem parseV_at {y : ByteArray} (h : (64 : Int) ∈ sb y) : (parseV y).2 = false := by
  obtain ⟨⟨a, b, c, p⟩, r, hpv⟩ : ∃ q r, parseV y = (q, r) := ⟨_, _, rfl⟩
  cases r
  · rw [hpv]
  · exfalso
    obtain ⟨hv, ht⟩ := parse_back hpv
    rw [verText_ok hv] at ht
    rw [← ht, sb_txtv (vt_byt hv)] at h
    exact vt_no hv 64 h rfl
theorem splitL_two : ∀ (l cur : List Int), (64 : Int) ∈ l → 2 ≤ (splitL 64 cur l).length := by
  intro l
  induction l with
  | nil => intro cur h; cases h
  | cons c r ih =>
    intro cur h
    unfold splitL
    by_cases hc : c = 64
    · rw [if_pos hc]
      have : 0 < (splitL 64 [] r).length := by
        cases r with
        | nil => simp [splitL]
        | cons d r =>
          by_cases hd : (64 : Int) ∈ d :: r
          · have := ih [] hd; omega
          · rw [split_last 64 _ (fun y hy e => hd (e ▸ hy))]; simp
      simp; omega
    · rw [if_neg hc]
      exact ih _ (by simpa [Ne.symm hc] using h)
theorem pn_no (x : ByteArray) (q : (Int × Int × Int × ByteArray) × Bool) (h : q.2 = false) : pn x q = (nil5, false) := by
  unfold pn
  rw [if_neg (by intro hc; rw [h] at hc; cases hc.1)]
/-- a text cut at the first @ -/
theorem pname_cut (s : ByteArray) : pname s = pn (cutA s).1 (parseV (cutA s).2) := by
  unfold cutA
  cases hd : (sb s).findIdx? (fun c => c == 64) with
  | none =>
    have hno : ∀ x ∈ sb s, x ≠ 64 := fun x hx e => by have := List.findIdx?_eq_none_iff.1 hd x hx; simp [e] at this
    simp only
    rw [parseV_nil, pn_no _ _ rfl]
    apply pname_no
    unfold splitT split
    rw [split_last 64 _ hno]
    simp
  | some i =>
    obtain ⟨hi, h1, h2⟩ := List.findIdx?_eq_some_iff_getElem.1 hd
    have h1' : (sb s)[i] = 64 := by simpa using h1
    have e : sb s = (sb s).take i ++ [64] ++ (sb s).drop (i + 1) := by
      rw [← h1', List.append_assoc]
      simp
    have hn : ∀ x ∈ (sb s).take i, x ≠ 64 := by
      intro x hx
      obtain ⟨j, hj, rfl⟩ := List.getElem_of_mem hx
      rw [List.getElem_take]
      have hj' : j < i := by rw [List.length_take] at hj; omega
      have := h2 j hj'
      simpa using this
    have e1 : sb (s.extract 0 i) = (sb s).take i := by rw [sb_ext]; simp
    have e2 : sb (s.extract (i + 1) s.size) = (sb s).drop (i + 1) := by
      rw [sb_ext, List.take_of_length_le (by rw [List.length_drop, sb_len]; omega)]
    have hsp : split 64 (sb s) = sb (s.extract 0 i) :: split 64 (sb (s.extract (i + 1) s.size)) := by
      rw [e1, e2]
      unfold split
      conv => lhs; rw [e]
      exact split_part 64 _ _ hn
    simp only
    by_cases hy : (64 : Int) ∈ sb (s.extract (i + 1) s.size)
    · rw [pn_no _ _ (parseV_at hy)]
      apply pname_no
      unfold splitT
      rw [hsp]
      have := splitL_two _ [] hy
      unfold split
      simp
      omega
    · have hl := split_last 64 (sb (s.extract (i + 1) s.size)) (fun y hy' e => hy (e ▸ hy'))
      have : splitT 64 s = [s.extract 0 i, s.extract (i + 1) s.size] := by
        unfold splitT
        rw [hsp]
        unfold split
        rw [hl]
        simp [txt_sbv]
      unfold pname
      rw [this]
theorem cutA_size (s : ByteArray) : (cutA s).1.size ≤ s.size ∧ (cutA s).2.size ≤ s.size := by
  unfold cutA
  split
  · simp only [ByteArray.size_extract]
    omega
  · exact ⟨Nat.le_refl _, Nat.zero_le _⟩

set_option maxRecDepth 1000000 in
set_option maxHeartbeats 2000000 in
theorem pname_impl (w : World) (s : ByteArray) (hs : s.size ≤ 1048576) :
    Calls Try.prog 5 #[.string s] w fun e w' => e = .returned (.tuple #[.agg #[.string (pname s).1.path, .int .i64 (pname s).1.a, .int .i64 (pname s).1.b, .int .i64 (pname s).1.c, .string (pname s).1.pre], .bool (pname s).2]) ∧ Below w.heap.size w w' := by
  have HR : Hid (Nr (w.alloc (.cells #[.string ⟨#[]⟩, .int .i64 0, .int .i64 0, .int .i64 0, .string ⟨#[]⟩] 25)) w.heap.size nil5) := heap_alloc_new w _
  have HB : Hid (Below w.heap.size w (w.alloc (.cells #[.string ⟨#[]⟩, .int .i64 0, .int .i64 0, .int .i64 0, .string ⟨#[]⟩] 25))) := (Below.refl _ _).alloc (Nat.le_refl _) _
  have q0 := clone_impl (w.alloc (.cells #[.string ⟨#[]⟩, .int .i64 0, .int .i64 0, .int .i64 0, .string ⟨#[]⟩] 25)) s (by omega)
  have q1 : ∀ W, _ := fun W => cutA_impl W s (by omega)
  have HP : Hid (pname s = pn (cutA s).1 (parseV (cutA s).2)) := pname_cut s
  obtain ⟨hxs, hys⟩ := cutA_size s
  obtain ⟨x, hx⟩ : ∃ x, (cutA s).1 = x := ⟨_, rfl⟩
  obtain ⟨y, hy⟩ : ∃ x, (cutA s).2 = x := ⟨_, rfl⟩
  obtain ⟨z, hz⟩ : ∃ x, decide (0 ≤ ats s) = x := ⟨_, rfl⟩
  simp only [hx, hy, hz] at q1 hxs hys HP
  clear hx hy hz
  have q2 : ∀ W, _ := fun W => parse_impl W y (by omega)
  simp only [parse_same] at q2
  have hpz := parseV_size y
  obtain ⟨⟨a, b, c, p⟩, r, hpv⟩ : ∃ q r, parseV y = (q, r) := ⟨_, _, rfl⟩
  simp only [hpv] at q2 hpz
  have HP2 : Hid (pname s = pn x ((a, b, c, p), r)) := by show _ = _; rw [HP.out, hpv]
  unfold verQ Ver.ver at q2
  simp only at q2
  clear hpv HP
  go_enter Try.func5, Try.ntmps5
  go_wp2_with fail
  refine q0.mono ?_
  rintro e w1 ⟨rfl, b1⟩
  have r1 : Nr w1 w.heap.size nil5 := rowStay5 HR.out b1
  have hB1 : Below w.heap.size w w1 := HB.out.trans (b1.mono HB.out.size)
  clear q0 HR HB b1
  go_wp2_with fail
  refine (q1 _).mono ?_
  rintro e w2 ⟨rfl, b2⟩
  have r2 : Nr w2 w.heap.size nil5 := rowStay5 r1 b2
  have hB2 : Below w.heap.size w w2 := hB1.trans (b2.mono hB1.size)
  clear q1 r1 hB1 b2
  go_wp2_with fail
  refine (q2 _).mono ?_
  rintro e w3 ⟨rfl, b3⟩
  have r3 : Nr w3 w.heap.size nil5 := rowStay5 r2 b3
  have hB3 : Below w.heap.size w w3 := hB2.trans (b3.mono hB2.size)
  clear q2 r2 hB2 b3
  have r4 : Nr (w3.alloc (.cells #[.int .i64 a, .int .i64 b, .int .i64 c, .string p] 23)) w.heap.size nil5 := rowStay5 r3 ((Below.refl _ _).alloc (Nat.le_refl _) _)
  have hB4 : Below w.heap.size w (w3.alloc (.cells #[.int .i64 a, .int .i64 b, .int .i64 c, .string p] 23)) := hB3.alloc hB3.size _
  have V4 : Vr (w3.alloc (.cells #[.int .i64 a, .int .i64 b, .int .i64 c, .string p] 23)) w3.heap.size a b c p := heap_alloc_new w3 _
  obtain ⟨m0, m1, m2, m3⟩ := Vr.cells V4
  have r5 : Nr ((w3.alloc (.cells #[.int .i64 a, .int .i64 b, .int .i64 c, .string p] 23)).alloc (.cells #[.string x, .int .i64 a, .int .i64 b, .int .i64 c, .string p] 25)) w.heap.size nil5 := rowStay5 r4 ((Below.refl _ _).alloc (Nat.le_refl _) _)
  have hB5 : Below w.heap.size w ((w3.alloc (.cells #[.int .i64 a, .int .i64 b, .int .i64 c, .string p] 23)).alloc (.cells #[.string x, .int .i64 a, .int .i64 b, .int .i64 c, .string p] 25)) := hB4.alloc hB4.size _
  have N5 : Nr ((w3.alloc (.cells #[.int .i64 a, .int .i64 b, .int .i64 c, .string p] 23)).alloc (.cells #[.string x, .int .i64 a, .int .i64 b, .int .i64 c, .string p] 25)) (w3.heap.size + 1) ⟨x, a, b, c, p⟩ := by
    have := heap_alloc_new (w3.alloc (.cells #[.int .i64 a, .int .i64 b, .int .i64 c, .string p] 23)) (.cells #[.string x, .int .i64 a, .int .i64 b, .int .i64 c, .string p] 25)
    rw [World.size_alloc] at this
    exact this
  obtain ⟨n0, n1, n2, n3, n4⟩ := Nr.cells N5
  simp only at n0 n1 n2 n3 n4
  have hlt : w.heap.size < w3.heap.size := (Array.getElem?_eq_some_iff.1 r3).1
  have HR5 : Hid _ := r5
  have HB5 : Hid _ := hB5
  have HN5 : Hid _ := N5
  clear r3 r4 hB3 hB4 V4 r5 hB5 N5
  cases r
  · have HN : Hid (pname s = (nil5, false)) := by show _ = _; rw [HP2.out]; exact pn_no _ _ rfl
    clear HP2
    go_wp2_with (refine wpList_store_row rfl 25 _ _ rfl w.heap.size (nc5 nil5) rfl rfl 25 _ HR5.out (sizeN5 nil5) rfl (oneN5 nil5) ?_)
    exact bodyPost_ret (results_row_tmp rfl _ _ w.heap.size 25 (nc5 nil5) (0, 0) _ rfl (setRow_heap _ _ _ _ _ (0, 0) HR5.out) Try.underlying25 rfl (sizeN5 nil5)) rfl ⟨by rw [HN.out]; rfl, below_setRow HB5.out (Nat.le_refl _) _⟩
  · have q4 : ∀ W, _ := fun W => need_impl W ⟨x, a, b, c, p⟩ (by show x.size ≤ _; omega) (by show p.size ≤ _; omega)
    obtain ⟨f, hf⟩ : ∃ f, (⟨x, a, b, c, p⟩ : Nd).ok = f := ⟨_, rfl⟩
    simp only [hf] at q4
    have HN : Hid (pname s = if f = true then (⟨x, a, b, c, p⟩, true) else (nil5, false)) := by
      show _ = _
      rw [HP2.out]
      unfold pn
      have hf' : fits4 x a b c p = f := hf
      simp only [hf', true_and]
    clear HP2 hf
    go_wp2_with fail
    refine (q4 _).mono ?_
    rintro e w6 ⟨rfl, b6⟩
    have r6 : Nr w6 w.heap.size nil5 := rowStay5 HR5.out b6
    have N6 : Nr w6 (w3.heap.size + 1) ⟨x, a, b, c, p⟩ := rowStay5 HN5.out b6
    have hB6 : Below w.heap.size w w6 := HB5.out.trans (b6.mono HB5.out.size)
    clear q4 HR5 HB5 HN5 b6 n0 n1 n2 n3 n4 m0 m1 m2 m3
    cases f
    · have HF : Hid (pname s = (nil5, false)) := HN.out
      clear HN
      go_wp2_with (refine wpList_store_row rfl 25 _ _ rfl w.heap.size (nc5 nil5) rfl rfl 25 _ r6 (sizeN5 nil5) rfl (oneN5 nil5) ?_)
      exact bodyPost_ret (results_row_tmp rfl _ _ w.heap.size 25 (nc5 nil5) (0, 0) _ rfl (setRow_heap _ _ _ _ _ (0, 0) r6) Try.underlying25 rfl (sizeN5 nil5)) rfl ⟨by rw [HF.out]; rfl, below_setRow hB6 (Nat.le_refl _) _⟩
    · have HF : Hid (pname s = (⟨x, a, b, c, p⟩, true)) := HN.out
      clear HN
      go_wp2_with (first | (refine wpList_load_row rfl 25 _ rfl (w3.heap.size + 1) rfl 25 (nc5 ⟨x, a, b, c, p⟩) (0, 0) _ N6 Try.underlying25 rfl (sizeN5 ⟨x, a, b, c, p⟩) ?_) | (refine wpList_store_row rfl 25 _ _ rfl w.heap.size (nc5 ⟨x, a, b, c, p⟩) rfl rfl 25 _ r6 (sizeN5 ⟨x, a, b, c, p⟩) rfl (oneN5 ⟨x, a, b, c, p⟩) ?_))
      exact bodyPost_ret (results_row_tmp rfl _ _ w.heap.size 25 (nc5 ⟨x, a, b, c, p⟩) (0, 0) _ rfl (setRow_heap _ _ _ _ _ (0, 0) r6) Try.underlying25 rfl (sizeN5 ⟨x, a, b, c, p⟩)) rfl ⟨by rw [HF.out]; rfl, below_setRow hB6 (Nat.le_refl _) _⟩

end Go.Proofs.Ytepcpnnnhdbjgam.Ent
