/- Texts in one: EfD, LmD, LmR. -/
import Derived.Test.YtbopliahafkecaaGreatDoorPk26
import Derived.Test.YtbopliahafkecaaGreatDoorPk36
import Derived.Test.YtbopliahafkecaaGreatDoorPk17
import Derived.Test.YtbopliahafkecaaGreatDoorPk35
import Derived.Test.YtbopliahafkecaaGreatDoorPk24
import Derived.RangeFuncNested
import Derived.RangeFuncBound
import Derived.RangeFuncCalls
import Derived.RangeFuncLeaves
/- Chapter 5, the landed code: a need read of its name. -/
namespace Go.Proofs.YtbopliahafkecaaGreatDoor.Ent
open Go.RowKit Go.Proofs.YtbopliahafkecaaGreatDoor.Mem Go.Proofs.YtbopliahafkecaaGreatDoor.Laws Go.Proofs.YtbopliahafkecaaGreatDoor.Bytes Go.Proofs.YtbopliahafkecaaGreatDoor.Sha Go.Proofs.YtbopliahafkecaaGreatDoor.Ver Go.Proofs.YtbopliahafkecaaGreatDoor.Mod
set_option linter.unusedVariables false
set_option linter.unusedSimpArgs false

theorem parseV_nil : parseV ⟨#[]⟩ = ((0, 0, 0, ⟨#[]⟩), false) := by
  unfold parseV
  rw [if_neg (by intro h; simp [sb] at h)]
theorem parseV_at {y : ByteArray} (h : (64 : Int) ∈ sb y) : (parseV y).2 = false := by
  obtain ⟨⟨a, b, c, p⟩, r, hpv⟩ : ∃ q r, parseV y = (q, r) := ⟨_, _, rfl⟩
  cases r
  · rw [hpv]
  · exfalso
    obtain ⟨hv, ht⟩ := parse_back hpv
    rw [verText_ok hv] at ht
    rw [← ht, sb_txtv (vt_byt hv)] at h
    exact vt_no hv 64 h rfl
theorem splitL_two : ∀ (l cur : List Int), (64 : Int) ∈ l → 2 ≤ (splitL 64 cur l).length := by
  intro l
  induction l with
  | nil => intro cur h; cases h
  | cons c r ih =>
    intro cur h
    unfold splitL
    by_cases hc : c = 64
    · rw [if_pos hc]
      have : 0 < (splitL 64 [] r).length := by
        cases r with
        | nil => simp [splitL]
        | cons d r =>
          by_cases hd : (64 : Int) ∈ d :: r
          · have := ih [] hd; omega
          · rw [split_last 64 _ (fun y hy e => hd (e ▸ hy))]; simp
      simp; omega
    · rw [if_neg hc]
      exact ih _ (by simpa [Ne.symm hc] using h)
theorem pn_no (x : ByteArray) (q : (Int × Int × Int × ByteArray) × Bool) (h : q.2 = false) : pn x q = (nil5, false) := by
  unfold pn
  rw [if_neg (by intro hc; rw [h] at hc; cases hc.1)]
/-- a text cut at the first @ -/
theorem pname_cut (s : ByteArray) : pname s = pn (cutA s).1 (parseV (cutA s).2) := by
  unfold cutA
  cases hd : (sb s).findIdx? (fun c => c == 64) with
  | none =>
    have hno : ∀ x ∈ sb s, x ≠ 64 := fun x hx e => by have := List.findIdx?_eq_none_iff.1 hd x hx; simp [e] at this
    simp only
    rw [parseV_nil, pn_no _ _ rfl]
    apply pname_no
    unfold splitT split
    rw [split_last 64 _ hno]
    simp
  | some i =>
    obtain ⟨hi, h1, h2⟩ := List.findIdx?_eq_some_iff_getElem.1 hd
    have h1' : (sb s)[i] = 64 := by simpa using h1
    have e : sb s = (sb s).take i ++ [64] ++ (sb s).drop (i + 1) := by
      rw [← h1', List.append_assoc]
      simp
    have hn : ∀ x ∈ (sb s).take i, x ≠ 64 := by
      intro x hx
      obtain ⟨j, hj, rfl⟩ := List.getElem_of_mem hx
      rw [List.getElem_take]
      have hj' : j < i := by rw [List.length_take] at hj; omega
      have := h2 j hj'
      simpa using this
    have e1 : sb (s.extract 0 i) = (sb s).take i := by rw [sb_ext]; simp
    have e2 : sb (s.extract (i + 1) s.size) = (sb s).drop (i + 1) := by
      rw [sb_ext, List.take_of_length_le (by rw [List.length_drop, sb_len]; omega)]
    have hsp : split 64 (sb s) = sb (s.extract 0 i) :: split 64 (sb (s.extract (i + 1) s.size)) := by
      rw [e1, e2]
      unfold split
      conv => lhs; rw [e]
      exact split_part 64 _ _ hn
    simp only
    by_cases hy : (64 : Int) ∈ sb (s.extract (i + 1) s.size)
    · rw [pn_no _ _ (parseV_at hy)]
      apply pname_no
      unfold splitT
      rw [hsp]
      have := splitL_two _ [] hy
      unfold split
      simp
      omega
    · have hl := split_last 64 (sb (s.extract (i + 1) s.size)) (fun y hy' e => hy (e ▸ hy'))
      have : splitT 64 s = [s.extract 0 i, s.extract (i + 1) s.size] := by
        unfold splitT
        rw [hsp]
        unfold split
        rw [hl]
        simp [txt_sbv]
      unfold pname
      rw [this]
theorem cutA_size (s : ByteArray) : (cutA s).1.size ≤ s.size ∧ (cutA s).2.size ≤ s.size := by
  unfold cutA
  split
  · simp only [ByteArray.size_extract]
    omega
  · exact ⟨Nat.le_refl _, Nat.zero_le _⟩

set_option maxRecDepth 1000000 in
set_option maxHeartbeats 2000000 in
theorem pname_impl (w : World) (s : ByteArray) (hs : s.size ≤ 1048576) :
    Calls Tryz.prog 69 #[.string s] w fun e w' => e = .returned (.tuple #[.agg #[.string (pname s).1.path, .int .i64 (pname s).1.a, .int .i64 (pname s).1.b, .int .i64 (pname s).1.c, .string (pname s).1.pre], .bool (pname s).2]) ∧ Below w.heap.size w w' := by
  have HR : Hid (Nr (w.alloc (.cells #[.string ⟨#[]⟩, .int .i64 0, .int .i64 0, .int .i64 0, .string ⟨#[]⟩] 47)) w.heap.size nil5) := heap_alloc_new w _
  have HB : Hid (Below w.heap.size w (w.alloc (.cells #[.string ⟨#[]⟩, .int .i64 0, .int .i64 0, .int .i64 0, .string ⟨#[]⟩] 47))) := (Below.refl _ _).alloc (Nat.le_refl _) _
  have q0 := clone_impl (w.alloc (.cells #[.string ⟨#[]⟩, .int .i64 0, .int .i64 0, .int .i64 0, .string ⟨#[]⟩] 47)) s (by omega)
  have q1 : ∀ W, _ := fun W => cutA_impl W s (by omega)
  have HP : Hid (pname s = pn (cutA s).1 (parseV (cutA s).2)) := pname_cut s
  obtain ⟨hxs, hys⟩ := cutA_size s
  obtain ⟨x, hx⟩ : ∃ x, (cutA s).1 = x := ⟨_, rfl⟩
  obtain ⟨y, hy⟩ : ∃ x, (cutA s).2 = x := ⟨_, rfl⟩
  obtain ⟨z, hz⟩ : ∃ x, decide (0 ≤ ats s) = x := ⟨_, rfl⟩
  simp only [hx, hy, hz] at q1 hxs hys HP
  clear hx hy hz
  have q2 : ∀ W, _ := fun W => parse_impl W y (by omega)
  simp only [parse_same] at q2
  have hpz := parseV_size y
  obtain ⟨⟨a, b, c, p⟩, r, hpv⟩ : ∃ q r, parseV y = (q, r) := ⟨_, _, rfl⟩
  simp only [hpv] at q2 hpz
  have HP2 : Hid (pname s = pn x ((a, b, c, p), r)) := by show _ = _; rw [HP.out, hpv]
  unfold verQ Ver.ver at q2
  simp only at q2
  clear hpv HP
  go_enter Tryz.func69, Tryz.ntmps69
  go_wp2_with fail
  refine q0.mono ?_
  rintro e w1 ⟨rfl, b1⟩
  have r1 : Nr w1 w.heap.size nil5 := rowStay5 HR.out b1
  have hB1 : Below w.heap.size w w1 := HB.out.trans (b1.mono HB.out.size)
  clear q0 HR HB b1
  go_wp2_with fail
  refine (q1 _).mono ?_
  rintro e w2 ⟨rfl, b2⟩
  have r2 : Nr w2 w.heap.size nil5 := rowStay5 r1 b2
  have hB2 : Below w.heap.size w w2 := hB1.trans (b2.mono hB1.size)
  clear q1 r1 hB1 b2
  go_wp2_with fail
  refine (q2 _).mono ?_
  rintro e w3 ⟨rfl, b3⟩
  have r3 : Nr w3 w.heap.size nil5 := rowStay5 r2 b3
  have hB3 : Below w.heap.size w w3 := hB2.trans (b3.mono hB2.size)
  clear q2 r2 hB2 b3
  have r4 : Nr (w3.alloc (.cells #[.int .i64 a, .int .i64 b, .int .i64 c, .string p] 45)) w.heap.size nil5 := rowStay5 r3 ((Below.refl _ _).alloc (Nat.le_refl _) _)
  have hB4 : Below w.heap.size w (w3.alloc (.cells #[.int .i64 a, .int .i64 b, .int .i64 c, .string p] 45)) := hB3.alloc hB3.size _
  have V4 : Vr (w3.alloc (.cells #[.int .i64 a, .int .i64 b, .int .i64 c, .string p] 45)) w3.heap.size a b c p := heap_alloc_new w3 _
  obtain ⟨m0, m1, m2, m3⟩ := Vr.cells V4
  have r5 : Nr ((w3.alloc (.cells #[.int .i64 a, .int .i64 b, .int .i64 c, .string p] 45)).alloc (.cells #[.string x, .int .i64 a, .int .i64 b, .int .i64 c, .string p] 47)) w.heap.size nil5 := rowStay5 r4 ((Below.refl _ _).alloc (Nat.le_refl _) _)
  have hB5 : Below w.heap.size w ((w3.alloc (.cells #[.int .i64 a, .int .i64 b, .int .i64 c, .string p] 45)).alloc (.cells #[.string x, .int .i64 a, .int .i64 b, .int .i64 c, .string p] 47)) := hB4.alloc hB4.size _
  have N5 : Nr ((w3.alloc (.cells #[.int .i64 a, .int .i64 b, .int .i64 c, .string p] 45)).alloc (.cells #[.string x, .int .i64 a, .int .i64 b, .int .i64 c, .string p] 47)) (w3.heap.size + 1) ⟨x, a, b, c, p⟩ := by
    have := heap_alloc_new (w3.alloc (.cells #[.int .i64 a, .int .i64 b, .int .i64 c, .string p] 45)) (.cells #[.string x, .int .i64 a, .int .i64 b, .int .i64 c, .string p] 47)
    rw [World.size_alloc] at this
    exact this
  obtain ⟨n0, n1, n2, n3, n4⟩ := Nr.cells N5
  simp only at n0 n1 n2 n3 n4
  have hlt : w.heap.size < w3.heap.size := (Array.getElem?_eq_some_iff.1 r3).1
  have HR5 : Hid _ := r5
  have HB5 : Hid _ := hB5
  have HN5 : Hid _ := N5
  clear r3 r4 hB3 hB4 V4 r5 hB5 N5
  cases r
  · have HN : Hid (pname s = (nil5, false)) := by show _ = _; rw [HP2.out]; exact pn_no _ _ rfl
    clear HP2
    go_wp2_with (refine wpList_store_row rfl 47 _ _ rfl w.heap.size (nc5 nil5) rfl rfl 47 _ HR5.out (sizeN5 nil5) rfl (oneN5 nil5) ?_)
    exact bodyPost_ret (results_row_tmp rfl _ _ w.heap.size 47 (nc5 nil5) (0, 0) _ rfl (setRow_heap _ _ _ _ _ (0, 0) HR5.out) Tryz.underlying47 rfl (sizeN5 nil5)) rfl ⟨by rw [HN.out]; rfl, below_setRow HB5.out (Nat.le_refl _) _⟩
  · have q4 : ∀ W, _ := fun W => need_impl W ⟨x, a, b, c, p⟩ (by show x.size ≤ _; omega) (by show p.size ≤ _; omega)
    obtain ⟨f, hf⟩ : ∃ f, (⟨x, a, b, c, p⟩ : Nd).ok = f := ⟨_, rfl⟩
    simp only [hf] at q4
    have HN : Hid (pname s = if f = true then (⟨x, a, b, c, p⟩, true) else (nil5, false)) := by
      show _ = _
      rw [HP2.out]
      unfold pn
      have hf' : fits4 x a b c p = f := hf
      simp only [hf', true_and]
    clear HP2 hf
    go_wp2_with fail
    refine (q4 _).mono ?_
    rintro e w6 ⟨rfl, b6⟩
    have r6 : Nr w6 w.heap.size nil5 := rowStay5 HR5.out b6
    have N6 : Nr w6 (w3.heap.size + 1) ⟨x, a, b, c, p⟩ := rowStay5 HN5.out b6
    have hB6 : Below w.heap.size w w6 := HB5.out.trans (b6.mono HB5.out.size)
    clear q4 HR5 HB5 HN5 b6 n0 n1 n2 n3 n4 m0 m1 m2 m3
    cases f
    · have HF : Hid (pname s = (nil5, false)) := HN.out
      clear HN
      go_wp2_with (refine wpList_store_row rfl 47 _ _ rfl w.heap.size (nc5 nil5) rfl rfl 47 _ r6 (sizeN5 nil5) rfl (oneN5 nil5) ?_)
      exact bodyPost_ret (results_row_tmp rfl _ _ w.heap.size 47 (nc5 nil5) (0, 0) _ rfl (setRow_heap _ _ _ _ _ (0, 0) r6) Tryz.underlying47 rfl (sizeN5 nil5)) rfl ⟨by rw [HF.out]; rfl, below_setRow hB6 (Nat.le_refl _) _⟩
    · have HF : Hid (pname s = (⟨x, a, b, c, p⟩, true)) := HN.out
      clear HN
      go_wp2_with (first | (refine wpList_load_row rfl 47 _ rfl (w3.heap.size + 1) rfl 47 (nc5 ⟨x, a, b, c, p⟩) (0, 0) _ N6 Tryz.underlying47 rfl (sizeN5 ⟨x, a, b, c, p⟩) ?_) | (refine wpList_store_row rfl 47 _ _ rfl w.heap.size (nc5 ⟨x, a, b, c, p⟩) rfl rfl 47 _ r6 (sizeN5 ⟨x, a, b, c, p⟩) rfl (oneN5 ⟨x, a, b, c, p⟩) ?_))
      exact bodyPost_ret (results_row_tmp rfl _ _ w.heap.size 47 (nc5 ⟨x, a, b, c, p⟩) (0, 0) _ rfl (setRow_heap _ _ _ _ _ (0, 0) r6) Tryz.underlying47 rfl (sizeN5 ⟨x, a, b, c, p⟩)) rfl ⟨by rw [HF.out]; rfl, below_setRow hB6 (Nat.le_refl _) _⟩

end Go.Proofs.YtbopliahafkecaaGreatDoor.Ent

/- Chapter 17, the landed code: lines that are read as names. -/
namespace Go.Proofs.YtbopliahafkecaaGreatDoor.Lm
open Go.RowKit Go.Proofs.YtbopliahafkecaaGreatDoor.Mem Go.Proofs.YtbopliahafkecaaGreatDoor.Laws Go.Proofs.YtbopliahafkecaaGreatDoor.Bytes Go.Proofs.YtbopliahafkecaaGreatDoor.Sha Go.Proofs.YtbopliahafkecaaGreatDoor.Ver Go.Proofs.YtbopliahafkecaaGreatDoor.Mod Go.Proofs.YtbopliahafkecaaGreatDoor.Ent Go.Proofs.YtbopliahafkecaaGreatDoor.He Go.Proofs.YtbopliahafkecaaGreatDoor.Fe Go.Proofs.YtbopliahafkecaaGreatDoor.Lk
set_option linter.unusedVariables false
set_option linter.unusedSimpArgs false

/-- the needs that lines are read as -/
def rd (L : List (Nat × ByteArray)) : List Nd := (L.map (·.2)).map need1
/-- all lines are names -/
def nmd (L : List (Nat × ByteArray)) : Bool := named (L.map (·.2))
theorem nmd_app (D : List (Nat × ByteArray)) (x : Nat × ByteArray) (R : List (Nat × ByteArray)) : nmd (D ++ x :: R) = (nmd D && ((pname x.2).2 && nmd R)) := by
  unfold nmd named
  rw [List.map_append, List.all_append]
  simp
theorem nil17 (w : World) (lo hi : Nat) : Od w lo hi (.slice none 0 0) [] := On.nil 5 _ _ _ _

set_option maxHeartbeats 4000000 in
set_option maxRecDepth 1000000 in
theorem needs17_impl (w : World) (L : List (Nat × ByteArray)) (h : Lm.Lns w L) (hz : ∀ x ∈ L, x.2.size ≤ 1048576) (hl : L.length ≤ 1048577) :
    Calls Tryz.prog 37 #[nx L] w fun e w' => ∃ v, e = .returned (.tuple #[v, .bool (nmd L)]) ∧ Od w' w.heap.size w'.heap.size v (if nmd L = true then rd L else []) ∧ Below w.heap.size w w' := by
  obtain ⟨i0, hi, hz0, hz1, hz2⟩ := info_parts infoN
  have HLT : Hid (∀ x ∈ L, x.1 < w.heap.size) := h.lt
  have HZ : Hid (∀ x ∈ L, x.2.size ≤ 1048576) := hz
  have HL : Hid (Lm.Lns w L) := h
  obtain ⟨f, hf⟩ : ∃ f, nmd L = f := ⟨_, rfl⟩
  have HF : Hid (nmd L = f) := hf
  rw [hf]
  obtain ⟨v0, hv0⟩ : ∃ v, nx L = v := ⟨_, rfl⟩
  have HV0 : Hid (nx L = v0) := hv0
  rw [hv0]
  clear hv0 h hz hf
  go_enter Tryz.func37, Tryz.ntmps37
  go_wp2
  go_loopw [0, 4] (fun v lv wr => ∃ (D R : List (Nat × ByteArray)), D ++ R = L ∧ v = nx R ∧ Hid (nmd D = true) ∧ Hid (Lm.Lns wr R) ∧ Hid (Od wr w.heap.size wr.heap.size lv (rd D)) ∧ Hid (Below w.heap.size w wr)) (fun v _ _ => left w.heap.size v)
  case atStart => exact ⟨[], L, rfl, HV0.out.symm, rfl, HL.out, nil17 _ _ _, Below.refl _ _⟩
  case round =>
    obtain ⟨D, R, hDR, rfl, HN, HR, HO, HB⟩ := hrel
    clear HL HV0
    obtain ⟨aoR, capR, hrv⟩ := on_slice5 HO.out
    subst hrv
    cases R with
    | nil =>
      have hf : f = true := by rw [← HF.out, ← hDR, List.append_nil]; exact HN.out
      have HD : Hid (rd D = rd L) := by show _ = _; rw [← hDR, List.append_nil]
      subst hf
      dsimp only [nx]
      go_wp2
      go_ret2
      exact ⟨_, rfl, by rw [← HD.out]; exact HO.out, HB.out⟩
    | cons x r =>
      obtain ⟨b, t⟩ := x
      have hm : (b, t) ∈ L := by rw [← hDR]; simp
      have hlt : b < w.heap.size := HLT.out (b, t) hm
      have htz : t.size ≤ 1048576 := HZ.out (b, t) hm
      have hRl : D.length ≤ 1048576 := by have h9 := congrArg List.length hDR; rw [List.length_append, List.length_cons] at h9; omega
      have hrl : (rd D).length ≤ D.length := by unfold rd; rw [List.length_map, List.length_map]; exact Nat.le_refl _
      have HM : Hid (left w.heap.size (nx r) < left w.heap.size (.pointer (some ⟨b, 0, none⟩))) := left_lt HR.out hlt
      have rb : Hid (wr.heap[b]? = some (.cells #[.string t, nx r] 55 (0, 0))) := HR.out.1
      have cb := Ke.c rb
      have hDR2 : D ++ [(b, t)] ++ r = L := by rw [← hDR]; simp
      obtain ⟨x, gd, hx⟩ : ∃ x gd, pname t = (x, gd) := ⟨_, _, rfl⟩
      have q7 := pname_impl wr t htz
      rw [hx] at q7
      simp only at q7
      have HX : Hid (need1 t = x) := by show _ = _; unfold need1; rw [hx]
      have HG : Hid ((pname t).2 = gd) := by show _ = _; rw [hx]
      clear hx
      dsimp only [nx]
      go_wp2_with fail
      refine (q7).mono ?_
      rintro e W2 ⟨rfl, b2⟩
      have z2 := b2.size
      have B2 : Hid (Below w.heap.size w W2) := Ke.b HB b2
      have L2 : Hid (Lm.Lns W2 ((b, t) :: r)) := HR.out.later b2
      have O2 : Hid (Od W2 w.heap.size W2.heap.size (.slice aoR (rd D).length capR) (rd D)) := On.mono (On.later HO.out b2 (Nat.le_refl _)) (Nat.le_refl _) b2.size
      obtain ⟨W3, HW3, b3, y3, hS3, r3⟩ := Ke.l1 W2 #[.string x.path, .int .i64 x.a, .int .i64 x.b, .int .i64 x.c, .string x.pre] 47
      have z3 := b3.size
      have hb0 := HB.out.size
      have B3 := Ke.b B2 b3
      have L3 : Hid (Lm.Lns W3 ((b, t) :: r)) := L2.out.later b3
      have O3 : Hid (Od W3 w.heap.size W3.heap.size (.slice aoR (rd D).length capR) (rd D)) := On.mono (On.later O2.out b3 (Nat.le_refl _)) (Nat.le_refl _) b3.size
      clear q7 b2 HB HR HO rb cb L2 O2
      cases gd
      · have hf : f = false := by rw [← HF.out, ← hDR, nmd_app, HG.out, HN.out]; rfl
        subst hf
        go_wp2
        go_ret2
        exact ⟨_, rfl, nil17 _ _ _, by first | exact B3.out | (rw [HW3.out]; exact B3.out)⟩
      · have HN2 : Hid (nmd (D ++ [(b, t)]) = true) := by show _ = _; rw [nmd_app, HN.out, HG.out]; rfl
        have HD2 : Hid (rd D ++ [x] = rd (D ++ [(b, t)])) := by show _ = _; unfold rd; rw [List.map_append, List.map_append, ← HX.out]; rfl
        have x0 : W3.cell? ⟨W2.heap.size, 0, none⟩ = some (.string x.path) := (by exact row_at r3.out 0)
        have x1 : W3.cell? ⟨W2.heap.size, 1, none⟩ = some (.int .i64 x.a) := (by exact row_at r3.out 1)
        have x2 : W3.cell? ⟨W2.heap.size, 2, none⟩ = some (.int .i64 x.b) := (by exact row_at r3.out 2)
        have x3 : W3.cell? ⟨W2.heap.size, 3, none⟩ = some (.int .i64 x.c) := (by exact row_at r3.out 3)
        have x4 : W3.cell? ⟨W2.heap.size, 4, none⟩ = some (.string x.pre) := (by exact row_at r3.out 4)
        rw [← HW3.out] at x0 x1 x2 x3 x4
        have k1 : (rd D).length + 1 ≤ maxLen := by unfold maxLen; omega
        have k2 : ((rd D).length + 1) * 56 ≤ 140737488355328 := by omega
        have k3 : ∀ ob, w.heap.size ≤ (W3.alloc ob).heap.size := fun ob => by simp; omega
        have O4 : ∀ ob, On 5 (W3.alloc ob) w.heap.size (W3.alloc ob).heap.size 47 (.slice aoR (rd D).length capR) (rd D).length (nds (rd D)) := fun ob => On.alloc O3.out ob
        have L4 : Hid (Sn 5 (W3.alloc (.cells (nc x) 47)) (.slice (some ⟨W2.heap.size + 1, 0, none⟩) 1 1) 1 x.cs) := by show Sn _ _ _ _ _; have h := Sn.one 5 W3 (nc x) 47 rfl; rw [hS3.out] at h; exact h
        go_wp2_with (at_builtin; (try rw [HW3.out]); go_must (refine wpl_appn 5 (by omega) _ rfl (.tmp 23) (.tmp 25) 26 rfl 47 i0 (.agg #[.string ⟨#[]⟩, .int .i64 0, .int .i64 0, .int .i64 0, .string ⟨#[]⟩]) 56 Tryz.underlying26 hi hz0 hz1 hz2 rfl w.heap.size _ (rd D).length (nds (rd D)) rfl (O4 _) _ rfl 1 x.cs L4.out (cs_oneN x) k1 k2 (k3 _) ?_))
        intro v0 W0 o0 b0 g0
        have D0 : Hid (Below w.heap.size w W0) := (B3.out.alloc B3.out.size _).trans b0
        have HO0 : Hid (Od W0 w.heap.size W0.heap.size v0 (rd (D ++ [(b, t)]))) := by have h9 := Od.snoc o0; rw [HD2.out] at h9; exact h9
        have ba : Below W3.heap.size W3 (W3.alloc (.cells (nc x) 47)) := (Below.refl _ _).alloc (Nat.le_refl _) _
        have L5 : Hid (Lm.Lns W0 ((b, t) :: r)) := (L3.out.later ba).gro g0 (fun y hy e => by
          have hO := O4 (.cells (nc x) 47)
          obtain ⟨v9, hv9⟩ := (L3.out.later ba).row y hy
          rcases hO.1.2 with ⟨h8, _⟩ | ⟨g9, cap9, cur9, h8, _, hg9, _⟩
          · rw [h8] at e; simp [Value.ownBlock] at e
          · rw [h8] at e
            simp [Value.ownBlock] at e
            subst e
            rw [hg9] at hv9
            simp at hv9)
        have rb : Hid (W0.heap[b]? = some (.cells #[.string t, nx r] 55 (0, 0))) := L5.out.1
        have cb := Ke.c rb
        have HR3 : Hid (Lm.Lns W0 r) := L5.out.2.2
        clear o0 b0 g0 O4 L4 x0 x1 x2 x3 x4 ba L5 L3 O3 r3
        obtain ⟨v1, hv1⟩ : ∃ v, nx r = v := ⟨_, rfl⟩
        have HV1 : Hid (nx r = v1) := hv1
        rw [hv1] at cb
        clear hv1 rb
        go_wp2
        go_roundw
        case rel => exact ⟨D ++ [(b, t)], r, hDR2, HV1.out.symm, HN2, HR3, HO0, D0⟩
        case measure => rw [← HV1.out]; exact HM.out

end Go.Proofs.YtbopliahafkecaaGreatDoor.Lm

/- A range over a function whose iterator keeps its own place in a block of cells: one law for a body that goes on; no program is named here. -/
namespace Go.Proofs.YtbopliahafkecaaGreatDoor.Lm
open Go.RowKit
set_option linter.unusedVariables false

/-- J bears new blocks, and turns of the block bx -/
def Bears {α : Type} (bx : Nat) (J : List α → World → Prop) : Prop :=
  ∀ s A B row, J s A → A.grownBy B row → (∀ r, row = some r → r = bx) → J s B
/-- what an iterator with a block of its own promises its caller -/
def Feeds {α : Type} (n : Nat) (P : Program) (g : Nat) (lb : Array Value) (encs : α → Array Value) (Kp : World → World → Prop) (S : List α → Prop) (N bx : Nat) (w : World) : Prop :=
  ∀ (l : Nat) (J : List α → World → Prop) (W : World), Below w.heap.size w W → Bears bx J →
    (∀ pre x V, J pre V → pre.length < N → YieldAt Fence.wide (n - 1) P l (encs x) V fun e V' => e = .returned (.bool true) ∧ J (pre ++ [x]) V' ∧ Kp V V') →
    J [] W → CallsIn Fence.wide n P g (#[.func (.yield l) #[] #[]] ++ lb) W fun e W' => (∃ v, e = .returned v) ∧ ∃ xs, S xs ∧ J xs W'
/-- how a round's body ends -/
def ends1 {α : Type} (B : Nat) (Kp : World → World → Prop) (I : List α → World → Prop) (xs : List α) (W : World) : Exit → Act → World → Prop
  | .normal, _, V => KeepsFrom B W V ∧ Kp W V ∧ I xs V
  | _, _, _ => False
/-- what the caller's own facts must bear: the iterator's block, and the loop's two blocks -/
def Stays {α : Type} (B bx : Nat) (I : List α → World → Prop) : Prop :=
  ∀ s A C row, I s A → A.grownBy C row → (∀ r, row = some r → r = bx ∨ (B ≤ r ∧ ∃ o : Obj, A.heap[r]? = some o ∧ o.isCells = false)) → I s C

theorem Stays.new {α : Type} {B bx : Nat} {I : List α → World → Prop} (h : Stays B bx I) {s : List α} {A : World} (o : Obj) (hi : I s A) : I s (A.alloc o) :=
  h s A _ none hi ⟨rfl, rfl, rfl, by simp, fun k hk _ => Below.heap_alloc A o k hk⟩ (fun r e => by cases e)
theorem Stays.put {α : Type} {B bx l : Nat} {I : List α → World → Prop} (h : Stays B bx I) {s : List α} {A : World} {o : Obj} (o' : Obj) (hi : I s A) (hl : B ≤ l) (ho : A.heap[l]? = some o) (hc : o.isCells = false) : I s (A.putObj l o') :=
  h s A _ (some l) hi (grownBy_putObj' A l o') (fun r e => by cases e; exact .inr ⟨hl, o, ho, hc⟩)

theorem range_feeds {α : Type} {n : Nat} {P : Program} {g : Operand} {ps : Array Tmp} {assign body : Code} {Q : Exit → Act → World → Prop} {a : Act} {w : World} (h1 : 1 ≤ n) {gf bx : Nat} {lb : Array Value}
    (hg : a.eval g = .func (.func gf) #[] lb) (eg : ∀ args w, (callFunc gf args).run P w = .ok (.enter gf args) w) {encs : α → Array Value} {Kp : World → World → Prop} {S : List α → Prop} {N : Nat} {w0 : World}
    (hseq : Feeds (n - 1) P gf lb encs Kp S N bx w0) (hb0 : Below w0.heap.size w0 w) (hbx : bx < w.heap.size) (hps : ∀ x, (encs x).size = ps.size)
    (hKt : ∀ {A B C : World}, Kp A B → Kp B C → Kp A C) (hKb : ∀ (W : World) (l : Nat) (o : Obj), w.heap.size ≤ l → Kp W (W.putObj l o))
    (I : List α → World → Prop) (hI : Stays w.heap.size bx I) (h0 : I [] w) (a1 : α → Act)
    (hassign : ∀ (l : Nat) (x : α) (W : World) (K : Act → World → Prop), K (a1 x) W →
      assign.wpIn (Fence.wide.inRound l) (n - 1 - 1) P (Exit.then K (fun _ _ _ => False)) { tmps := (ps.zip (encs x)).foldl (fun t (p, v) => t.setIfInBounds p v) a.tmps, defers := [] } W)
    (hbody : ∀ (l : Nat) (pre : List α) (x : α) (W : World), w.heap.size ≤ l → I pre W → pre.length < N → body.wpIn (Fence.wide.inRound l) (n - 1 - 1) P (ends1 w.heap.size Kp I (pre ++ [x]) W) (a1 x) W)
    (hdone : ∀ (D : Nat) (xs : List α) (W : World), w.heap.size ≤ D → S xs → I xs W → W.heap[D]? = some (.deferred (some [])) → Q .normal { a with defers := { target := .collected D, args := #[] } :: a.defers } W) :
    (Code.rangeFunc g ps assign body).wpIn Fence.wide n P Q a w := by
  refine wpIn_rangeFunc ?_
  intro fn hfn
  obtain ⟨R, hR⟩ : ∃ R : LoopState → Option Code → Loop, R = fun st pe => { state := st, pending := pe, fn, tmps := a.tmps, params := ps, assign, body, defers := w.heap.size } := ⟨_, rfl⟩
  obtain ⟨V, hV⟩ : ∃ V, (w.alloc (.deferred (some []))).alloc (.loop (R .ready none)) = V := ⟨_, rfl⟩
  have l0 : V.heap[w.heap.size + 1]? = some (.loop (R .ready none)) := by
    rw [← hV]
    have := World.alloc_heap_new (w.alloc (.deferred (some []))) (.loop (R .ready none))
    rwa [World.size_alloc] at this
  have d0 : V.heap[w.heap.size]? = some (.deferred (some [])) := by
    rw [← hV]
    exact (Below.heap_alloc _ _ _ (by simp)).trans (World.alloc_heap_new w _)
  have i0 : I [] V := by rw [← hV]; exact hI.new _ (hI.new _ h0)
  have b0 : Below w0.heap.size w0 V := by rw [← hV]; exact hb0.trans ((((Below.refl _ w).alloc (Nat.le_refl _) _).alloc (by simp) _).mono hb0.size)
  refine ⟨w.heap.size + 1, [{ target := .collected w.heap.size, args := #[] }], V, { target := .fn (.func gf) lb, args := #[.func (.yield (w.heap.size + 1)) #[] #[]] }, V, gf, #[.func (.yield (w.heap.size + 1)) #[] #[]] ++ lb, V, ?_, ?_, ?_, ?_, fun _ => h1, ?_⟩
  · rw [← hV, hR]
    exact run_enterLoop_outer _ _ _ _ _
  · simp only [resolve, hg]
    simp [go_sem]
  · intro f' hf'
    trivial
  · simp [invoke, go_sem, eg]
  refine (hseq (w.heap.size + 1) (fun pre W => I pre W ∧ W.heap[w.heap.size + 1]? = some (.loop (R .ready none)) ∧ W.heap[w.heap.size]? = some (.deferred (some []))) V b0 ?_ ?_ ⟨i0, l0, d0⟩).mono ?_
  · rintro s A C row ⟨hi, hl, hd⟩ gr hr
    have hlt := (Array.getElem?_eq_some_iff.1 hl).1
    exact ⟨hI s A C row hi gr (fun r e => .inl (hr r e)), (gr.block _ hlt (fun e => by have := hr _ e.symm; omega)).trans hl, (gr.block _ (by omega) (fun e => by have := hr _ e.symm; omega)).trans hd⟩
  · rintro pre x W ⟨hi, hl, hd⟩ hlen
    have hlt := (Array.getElem?_eq_some_iff.1 hl).1
    have hy := run_yield (P := P) (args := encs x) hl (by rw [hR]; exact hps x)
    rw [hR] at hy
    refine ⟨fn, _, assign, body, hy, roundIn_of_wpIn hfn (hassign _ x W _ ?_)⟩
    clear hy
    refine ⟨_, run_beginRound hl (by rw [hR]), ?_⟩
    obtain ⟨U, hU⟩ : ∃ U, W.putObj (w.heap.size + 1) (.loop { R .ready none with state := .busy }) = U := ⟨_, rfl⟩
    have l2 : U.heap[w.heap.size + 1]? = some (.loop { R .ready none with state := .busy }) := by rw [← hU]; exact World.putObj_heap_same hlt
    have d2 : U.heap[w.heap.size]? = some (.deferred (some [])) := by rw [← hU]; exact (World.putObj_heap_other (by omega)).trans hd
    have k2 : Kp W U := by rw [← hU]; exact hKb _ _ _ (by omega)
    have i2 : I pre U := by rw [← hU]; exact hI.put _ hi (by omega) hl rfl
    rw [hU]
    refine wpIn_mono (hbody _ pre x U (by omega) i2 hlen) ?_
    rintro e a3 T hp
    cases e with
    | normal =>
      obtain ⟨k3, p3, i3⟩ := hp
      have l3 := k3.same _ _ (by omega) l2 rfl
      have d3 := k3.same _ _ (Nat.le_refl _) d2 rfl
      have hend := run_endRound (P := P) none l3
      rw [hR] at hend
      refine ⟨_, _, hend, rfl, ⟨hI.put _ i3 (by omega) l3 rfl, ?_, (World.putObj_heap_other (by omega)).trans d3⟩, hKt k2 (hKt p3 (hKb _ _ _ (by omega)))⟩
      rw [hR]
      exact World.putObj_heap_same (Array.getElem?_eq_some_iff.1 l3).1
    | _ => exact hp.elim
  · rintro e W2 ⟨⟨v, rfl⟩, xs, hS, hi, hl, hd⟩
    have hend := run_endLoop (P := P) hl (by rw [hR]; simp)
    rw [hR] at hend
    exact ⟨none, _, hend, hdone _ xs _ (Nat.le_refl _) hS (hI.put _ hi (by omega) hl rfl) ((World.putObj_heap_other (by omega)).trans hd)⟩

end Go.Proofs.YtbopliahafkecaaGreatDoor.Lm
