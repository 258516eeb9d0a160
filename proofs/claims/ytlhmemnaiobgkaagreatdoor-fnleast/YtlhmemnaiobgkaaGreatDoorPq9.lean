/- Texts in one: Mod4, Mod5, Mod6, Ent1. -/
import Derived.Test.YtlhmemnaiobgkaaGreatDoorPq8
import Derived.Test.YtlhmemnaiobgkaaGreatDoorPq5
import Derived.Test.YtlhmemnaiobgkaaGreatDoorPq6
/- Chapter 4, the specification's side: a path's major number, what fits it, its base. -/
namespace Go.Proofs.YtlhmemnaiobgkaaGreatDoor.Ver
open Go.RowKit Go.Proofs.YtlhmemnaiobgkaaGreatDoor.Mem Go.Proofs.YtlhmemnaiobgkaaGreatDoor.Laws Go.Proofs.YtlhmemnaiobgkaaGreatDoor.Bytes Go.Proofs.YtlhmemnaiobgkaaGreatDoor.Sha
set_option linter.unusedVariables false
set_option linter.unusedSimpArgs false

def fits4 (s : ByteArray) (a b c : Int) (p : ByteArray) : Bool :=
  decide (0 < major4 s) && okV a b c p && (decide (a = major4 s) || (decide (major4 s = 1) && decide (a = 0)))
def base4 (s : ByteArray) : ByteArray :=
  if path4 (sb s) = true then (if maj4 s = 0 then s else s.extract 0 (s.size - 2 - (digF 6 (maj4 s).toNat).length)) else ⟨#[]⟩

set_option maxRecDepth 1000000 in
set_option maxHeartbeats 1000000 in
theorem major_spec (w : World) (s : ByteArray) (hs : s.size ≤ 1000000000000) :
    Calls Tryz.prog 67 #[.string s] w fun e w' => e = .returned (.int .i64 (major4 s)) ∧ Below w.heap.size w w' := by
  have HM : Hid (major4 s = if path4 (sb s) = true then (if maj4 s = 0 then 1 else maj4 s) else 0) := rfl
  have q1 := path_spec w s hs
  have q2 : ∀ W, _ := fun W => maj_spec W s hs
  obtain ⟨ok, hok⟩ : ∃ b, path4 (sb s) = b := ⟨_, rfl⟩
  obtain ⟨n, hn⟩ : ∃ n, maj4 s = n := ⟨_, rfl⟩
  rw [hok, hn] at HM
  rw [hok] at q1
  simp only [hn] at q2
  clear hok hn
  go_enter Tryz.func67, Tryz.ntmps67
  go_wp2_with fail
  refine q1.mono ?_
  rintro e w1 ⟨rfl, b1⟩
  cases ok
  · have HN : Hid (major4 s = 0) := HM.out
    clear HM
    go_wp2
    go_ret
    exact ⟨by rw [HN.out]; rfl, b1⟩
  · replace HM : Hid (major4 s = if n = 0 then 1 else n) := HM.out
    go_wp2_with fail
    refine (q2 _).mono ?_
    rintro e w2 ⟨rfl, b2⟩
    have hb2 : Below w.heap.size w w2 := b1.trans (b2.mono b1.size)
    by_cases h0 : n = 0
    · have d0 : (n == 0) = true := by simpa using h0
      have HN : Hid (major4 s = 1) := by show _ = _; rw [HM.out, if_pos h0]
      clear HM
      go_wp2
      go_ret
      exact ⟨by rw [HN.out]; rfl, hb2⟩
    · have d0 : (n == 0) = false := by simpa using h0
      have HN : Hid (major4 s = n) := by show _ = _; rw [HM.out, if_neg h0]
      clear HM
      go_wp2
      go_ret
      exact ⟨by rw [HN.out]; rfl, hb2⟩

theorem major4_bd (s : ByteArray) : 0 ≤ major4 s ∧ major4 s ≤ 1000 := by
  unfold major4
  have := maj4_bd s
  split
  · split <;> omega
  · omega

end Go.Proofs.YtlhmemnaiobgkaaGreatDoor.Ver

/- Chapter 4: paths and their last parts; plain facts alone. -/
namespace Go.Proofs.YtlhmemnaiobgkaaGreatDoor.Mod
open Go.RowKit Go.Proofs.YtlhmemnaiobgkaaGreatDoor.Mem Go.Proofs.YtlhmemnaiobgkaaGreatDoor.Laws Go.Proofs.YtlhmemnaiobgkaaGreatDoor.Bytes Go.Proofs.YtlhmemnaiobgkaaGreatDoor.Sha Go.Proofs.YtlhmemnaiobgkaaGreatDoor.Ver
set_option linter.unusedVariables false
set_option linter.unusedSimpArgs false

theorem pow_one (n : Nat) : (1 : Int) ≤ 10 ^ n := by
  induction n with
  | zero => simp
  | succ n ih => rw [Int.pow_succ]; omega
theorem pow_up (m : Nat) : ∀ k : Nat, (10 : Int) ^ m ≤ 10 ^ (m + k) := by
  intro k
  induction k with
  | zero => simp
  | succ k ih =>
    have := pow_one (m + k)
    rw [← Nat.add_assoc, Int.pow_succ]
    omega
theorem pow_le {m n : Nat} (h : m ≤ n) : (10 : Int) ^ m ≤ 10 ^ n := by
  have := pow_up m (n - m)
  rw [show m + (n - m) = n by omega] at this
  exact this
theorem snoc_of {l : List Int} (h : l ≠ []) : ∃ l' c, l = l' ++ [c] := ⟨l.dropLast, l.getLast h, (List.dropLast_concat_getLast h).symm⟩
/-- digits whose first is no nought are no less than a power of ten -/
theorem numv_big : ∀ (n : Nat) (l : List Int), l.length = n + 1 → l.all isd = true → l.head? ≠ some 48 → (10 : Int) ^ n ≤ numv l := by
  intro n
  induction n with
  | zero =>
    intro l hl ha hh
    match l, hl with
    | [c], _ =>
      simp [isd] at ha
      simp at hh
      simp [numv]
      omega
  | succ n ih =>
    intro l hl ha hh
    obtain ⟨l', c, rfl⟩ := snoc_of (l := l) (by intro h; rw [h] at hl; simp at hl)
    have hl' : l'.length = n + 1 := by simp at hl; omega
    rw [List.all_append, Bool.and_eq_true] at ha
    have hc : 48 ≤ c ∧ c ≤ 57 := by simpa [isd] using ha.2
    have h2 : l'.head? ≠ some 48 := by
      cases l' with
      | nil => simp at hl'
      | cons x y => simpa using hh
    have := ih l' hl' ha.1 h2
    rw [numv_snoc, Int.pow_succ]
    omega

theorem digF_back : ∀ (f : Nat) (l : List Int), (l.all isd = true ∧ l ≠ [] ∧ (1 < l.length → l.head? ≠ some 48)) → numv l < 10 ^ (f + 1) → digF f (numv l).toNat = l := by
  intro f
  induction f with
  | zero =>
    intro l hn hv
    obtain ⟨ha, h0, hh⟩ := hn
    have hp : 0 < l.length := List.length_pos_iff.2 h0
    have h1 : l.length = 1 := by
      by_cases h : l.length = 1
      · exact h
      · have hb := numv_big (l.length - 1) l (by omega) ha (hh (by omega))
        have : (10 : Int) ^ 1 ≤ 10 ^ (l.length - 1) := pow_le (by omega)
        simp at hv this
        omega
    match l, h1 with
    | [c], _ =>
      have hc : 48 ≤ c ∧ c ≤ 57 := by simpa [isd] using ha
      simp [digF, numv]
      omega
  | succ f ih =>
    intro l hn hv
    obtain ⟨ha, h0, hh⟩ := hn
    have hp : 0 < l.length := List.length_pos_iff.2 h0
    by_cases h1 : l.length = 1
    · match l, h1 with
      | [c], _ =>
        have hc : 48 ≤ c ∧ c ≤ 57 := by simpa [isd] using ha
        have : (numv [c]).toNat < 10 := by simp [numv]; omega
        unfold digF
        rw [if_pos this]
        simp [numv]
        omega
    · obtain ⟨l', c, rfl⟩ := snoc_of h0
      have hl1 : 0 < l'.length := by simp at h1; exact List.length_pos_iff.2 h1
      have hh2 : l'.head? ≠ some 48 := by
        have := hh (by simp; omega)
        cases l' with
        | nil => simp at hl1
        | cons x y => simpa using this
      rw [List.all_append, Bool.and_eq_true] at ha
      have hc : 48 ≤ c ∧ c ≤ 57 := by simpa [isd] using ha.2
      have hn' : l'.all isd = true ∧ l' ≠ [] ∧ (1 < l'.length → l'.head? ≠ some 48) := ⟨ha.1, List.length_pos_iff.1 hl1, fun _ => hh2⟩
      have hb := numv_big (l'.length - 1) l' (by omega) ha.1 hh2
      have hpos : (1 : Int) ≤ 10 ^ (l'.length - 1) := pow_one _
      have hs := numv_snoc l' c
      have hv' : numv l' < 10 ^ (f + 1) := by rw [hs, Int.pow_succ] at hv; omega
      have hr := ih l' hn' hv'
      rw [hs]
      have e1 : (numv l' * 10 + (c - 48)).toNat / 10 = (numv l').toNat := by omega
      have e2 : (((numv l' * 10 + (c - 48)).toNat % 10 : Nat) : Int) = c - 48 := by omega
      unfold digF
      rw [if_neg (by omega), e1, e2, hr]
      simp
      omega

/-- a number's text is the one that it was read of -/
theorem number_back {l : List Int} (h : 0 ≤ number l) (h2 : number l ≤ 1000000) : digF 6 (number l).toNat = l := by
  unfold number at h h2 ⊢
  split at h
  · omega
  · rename_i hc
    rw [if_neg hc] at h2 ⊢
    rw [not_or, not_or] at hc
    obtain ⟨h3, h4, h5⟩ := hc
    have h6 : digs l = true := by simpa using h3
    unfold digs at h6
    rw [Bool.and_eq_true] at h6
    refine digF_back 6 l ⟨h6.1, ?_, fun hl hh => h5 ⟨hl, hh⟩⟩ (by simp; omega)
    have := h6.2
    simpa using this

theorem splitL_app (b : Int) (r : List Int) : ∀ (q cur : List Int), splitL b cur (q ++ [b] ++ r) = splitL b cur q ++ splitL b [] r := by
  intro q
  induction q with
  | nil => intro cur; simp [splitL]
  | cons c q ih =>
    intro cur
    simp only [List.cons_append]
    rw [splitL.eq_2 b cur c (q ++ [b] ++ r), splitL.eq_2 b cur c q]
    split
    · rw [ih]; simp
    · rw [ih]
theorem splitL_none (b : Int) : ∀ (r cur : List Int), (∀ x ∈ r, x ≠ b) → splitL b cur r = [cur ++ r] := by
  intro r
  induction r with
  | nil => intro cur _; simp [splitL]
  | cons c r ih =>
    intro cur h
    unfold splitL
    rw [if_neg (h c (by simp)), ih _ (fun x hx => h x (by simp [hx]))]
    simp
/-- a list that holds b: what stands before its last b, and behind -/
theorem last_of (b : Int) : ∀ l : List Int, b ∈ l → ∃ q r, l = q ++ [b] ++ r ∧ ∀ x ∈ r, x ≠ b := by
  intro l
  induction l with
  | nil => intro h; simp at h
  | cons c l ih =>
    intro h
    by_cases hb : b ∈ l
    · obtain ⟨q, r, rfl, hr⟩ := ih hb
      exact ⟨c :: q, r, by simp, hr⟩
    · have : b = c := by simpa [hb] using h
      subst this
      exact ⟨[], l, by simp, fun x hx e => hb (e ▸ hx)⟩

/-- a path whose last part tells a number -/
theorem maj4_form {s : ByteArray} (h : maj4 s ≠ 0) : ∃ q d : List Int, sb s = q ++ [47] ++ ([118] ++ d) ∧ split 47 (sb s) = split 47 q ++ [[118] ++ d] ∧ number d = maj4 s ∧ digF 6 (maj4 s).toNat = d ∧ 2 ≤ maj4 s ∧ maj4 s ≤ 1000 ∧ ∀ x ∈ d, x ≠ 47 := by
  have hbd := maj4_bd s
  have hm : maj4 s = if (splitT 47 s).length < 2 ∨ (sb (lastT s)).head? ≠ some 118 then 0 else in4 (number (sb ((lastT s).extract 1 (lastT s).size))) := rfl
  split at hm
  · exact absurd hm h
  · rename_i hc
    rw [not_or] at hc
    obtain ⟨h1, h2⟩ := hc
    have hT := splitT_sb 47 s
    have hin : (47 : Int) ∈ sb s := by
      apply Classical.byContradiction
      intro hn
      have : split 47 (sb s) = [sb s] := by
        unfold split
        rw [splitL_none 47 _ _ (fun x hx e => hn (e ▸ hx))]
        simp
      have h3 : (splitT 47 s).length = 1 := by rw [← List.length_map (f := sb), hT, this]; rfl
      omega
    obtain ⟨q, r, hs, hr⟩ := last_of 47 _ hin
    have hsp : split 47 (sb s) = split 47 q ++ [r] := by
      unfold split
      rw [hs, splitL_app, splitL_none 47 r [] hr]
      simp
    have hlast : sb (lastT s) = r := by
      have h4 : (splitT 47 s).map sb = split 47 q ++ [r] := by rw [hT, hsp]
      have h5 : ((splitT 47 s).map sb).getLast? = some r := by rw [h4]; simp
      rw [List.getLast?_map] at h5
      unfold lastT
      cases hg : (splitT 47 s).getLast? with
      | none => rw [hg] at h5; simp at h5
      | some x => rw [hg] at h5; simpa using h5
    rw [hlast] at h2
    have h2' : r.head? = some 118 := by simpa using h2
    obtain ⟨d, rfl⟩ : ∃ d, r = [118] ++ d := by
      cases r with
      | nil => simp at h2'
      | cons x d => simp at h2'; exact ⟨d, by rw [h2']; rfl⟩
    have hd : sb ((lastT s).extract 1 (lastT s).size) = d := by
      rw [ext_txt, hlast]
      have hz : (lastT s).size = d.length + 1 := by rw [← sb_len, hlast]; simp
      rw [hz]
      have hB : Byt d := by
        have := sb_byt (lastT s)
        rw [hlast] at this
        exact fun x hx => this x (by simp [hx])
      rw [show ((([118] ++ d : List Int).drop 1).take (d.length + 1 - 1)) = d by simp]
      exact sb_txtv hB
    rw [hd] at hm
    have hn : number d = maj4 s := by
      rw [hm]
      unfold in4
      split
      · rfl
      · rename_i hc
        exfalso
        apply h
        rw [hm]
        unfold in4
        rw [if_neg hc]
    refine ⟨q, d, hs, hsp, hn, ?_, by omega, by omega, fun x hx => hr x (by simp [hx])⟩
    rw [← hn]
    exact number_back (by omega) (by omega)

theorem maj4_len {s : ByteArray} (h : maj4 s ≠ 0) : 2 + (digF 6 (maj4 s).toNat).length ≤ s.size := by
  obtain ⟨q, d, h1, h2, h3, h4, _⟩ := maj4_form h
  have := congrArg List.length h1
  rw [sb_len] at this
  rw [h4]
  simp at this
  omega
/-- a path's base: the path, or what stands before the last part -/
theorem base4_form {s : ByteArray} (hp : path4 (sb s) = true) : path4 (sb (base4 s)) = true ∧ (base4 s).size ≤ s.size ∧ s.extract 0 (base4 s).size = base4 s ∧ (maj4 s = 0 → base4 s = s) := by
  unfold base4
  rw [if_pos hp]
  by_cases h0 : maj4 s = 0
  · rw [if_pos h0]
    refine ⟨hp, Nat.le_refl _, ?_, fun _ => rfl⟩
    apply ByteArray.ext
    simp
  · rw [if_neg h0]
    obtain ⟨q, d, h1, h2, h3, h4, _⟩ := maj4_form h0
    have hl := congrArg List.length h1
    rw [sb_len] at hl
    rw [h4]
    have e : s.size - 2 - d.length = q.length := by simp at hl; omega
    rw [e]
    have hx : s.extract 0 q.length = Plain.txt q := by rw [ext_txt, h1]; simp
    have hq : Byt q := by
      have := sb_byt s
      rw [h1] at this
      exact fun x hx => this x (by simp [hx])
    have hz : (Plain.txt q).size = q.length := txt_sizev q
    rw [hx, hz, sb_txtv hq]
    refine ⟨?_, by simp at hl; omega, hx, fun h => absurd h h0⟩
    unfold path4 at hp ⊢
    rw [h2] at hp
    rw [h1] at hp
    simp only [Bool.and_eq_true, decide_eq_true_eq, List.all_append, List.length_append] at hp ⊢
    refine ⟨⟨hp.1.1.1, by omega⟩, by omega⟩

end Go.Proofs.YtlhmemnaiobgkaaGreatDoor.Mod

/- Chapter 4, the specification's side: what fits a path. -/
namespace Go.Proofs.YtlhmemnaiobgkaaGreatDoor.Mod
open Go.RowKit Go.Proofs.YtlhmemnaiobgkaaGreatDoor.Mem Go.Proofs.YtlhmemnaiobgkaaGreatDoor.Laws Go.Proofs.YtlhmemnaiobgkaaGreatDoor.Bytes Go.Proofs.YtlhmemnaiobgkaaGreatDoor.Sha Go.Proofs.YtlhmemnaiobgkaaGreatDoor.Ver
set_option linter.unusedVariables false
set_option linter.unusedSimpArgs false

set_option maxRecDepth 1000000 in
set_option maxHeartbeats 1000000 in
theorem fits_spec (w : World) (s : ByteArray) (a b c : Int) (p : ByteArray) (hs : s.size ≤ 1000000000000) (hp : p.size ≤ 1000000000000) :
    Calls Tryz.prog 76 #[.string s, ver a b c p] w fun e w' => e = .returned (.bool (fits4 s a b c p)) ∧ Below w.heap.size w w' := by
  have q1 := major_spec (w.alloc (.cells #[.int .i64 a, .int .i64 b, .int .i64 c, .string p] 32)) s hs
  have q2 : ∀ W, _ := fun W => ok_spec W a b c p hp
  have HM : Hid (fits4 s a b c p = (decide (0 < major4 s) && okV a b c p && (decide (a = major4 s) || (decide (major4 s = 1) && decide (a = 0))))) := rfl
  obtain ⟨m, hm⟩ : ∃ m, major4 s = m := ⟨_, rfl⟩
  obtain ⟨ok, hok⟩ : ∃ m, okV a b c p = m := ⟨_, rfl⟩
  rw [hm] at q1
  simp only [hok] at q2
  rw [hm, hok] at HM
  clear hm hok
  have HR0 : Hid (Vr (w.alloc (.cells #[.int .i64 a, .int .i64 b, .int .i64 c, .string p] 32)) w.heap.size a b c p) := heap_alloc_new w _
  have HB : Hid (Below w.heap.size w (w.alloc (.cells #[.int .i64 a, .int .i64 b, .int .i64 c, .string p] 32))) := (Below.refl _ _).alloc (Nat.le_refl _) _
  unfold ver at q2 ⊢
  go_enter Tryz.func76, Tryz.ntmps76
  go_wp2_with fail
  refine q1.mono ?_
  rintro e w1 ⟨rfl, b1⟩
  have r1 := Vr.same HR0.out b1
  have hb1 : Below w.heap.size w w1 := HB.out.trans (b1.mono (by simp))
  obtain ⟨k0, k1, k2, k3⟩ := Vr.cells r1
  clear HR0 HB q1 b1
  by_cases h0 : 0 < m
  · have d0 : decide (m > 0) = true := by simpa using h0
    have d0' : decide (0 < m) = true := by simpa using h0
    go_wp2_with fail
    refine (q2 _).mono ?_
    rintro e w2 ⟨rfl, b2⟩
    have r2 := Vr.same r1 b2
    have hb2 : Below w.heap.size w w2 := hb1.trans (b2.mono hb1.size)
    clear k0 k1 k2 k3 r1
    obtain ⟨k0, k1, k2, k3⟩ := Vr.cells r2
    cases ok
    · have HN : Hid (fits4 s a b c p = false) := by show _ = _; rw [HM.out]; simp
      clear HM
      go_wp2
      go_ret
      exact ⟨by rw [HN.out]; rfl, hb2⟩
    · by_cases h1 : a = m
      · have d1 : (a == m) = true := by simpa using h1
        have HN : Hid (fits4 s a b c p = true) := by show _ = _; rw [HM.out]; simp [h0, h1]
        clear HM
        go_wp2
        go_ret
        exact ⟨by rw [HN.out]; rfl, hb2⟩
      · have d1 : (a == m) = false := by simpa using h1
        by_cases h2 : m = 1
        · have d2 : (m == 1) = true := by simpa using h2
          have HN : Hid (fits4 s a b c p = (a == 1 || a == 0)) := by
            show _ = _
            have e1 : (a == 1) = false := by rw [← h2]; exact d1
            rw [HM.out, e1, decide_eq_false h1, decide_eq_true h2, d0']
            by_cases h3 : a = 0 <;> simp [h3]
          clear HM
          go_wp2
          go_ret
          exact ⟨by rw [HN.out]; rfl, hb2⟩
        · have d2 : (m == 1) = false := by simpa using h2
          have HN : Hid (fits4 s a b c p = false) := by show _ = _; rw [HM.out]; simp [h1, h2]
          clear HM
          go_wp2
          go_ret
          exact ⟨by rw [HN.out]; rfl, hb2⟩
  · have d0 : decide (m > 0) = false := by simpa using h0
    have d0' : decide (0 < m) = false := by simpa using h0
    have HN : Hid (fits4 s a b c p = false) := by show _ = _; rw [HM.out, d0']; rfl
    clear HM
    go_wp2
    go_ret
    exact ⟨by rw [HN.out]; rfl, hb1⟩

end Go.Proofs.YtlhmemnaiobgkaaGreatDoor.Mod

/- Chapter 5: needs and entries as cells; plain facts. -/
namespace Go.Proofs.YtlhmemnaiobgkaaGreatDoor.Ent
open Go.RowKit Go.Proofs.YtlhmemnaiobgkaaGreatDoor.Mem Go.Proofs.YtlhmemnaiobgkaaGreatDoor.Laws Go.Proofs.YtlhmemnaiobgkaaGreatDoor.Ver
set_option linter.unusedVariables false
set_option linter.unusedSimpArgs false

/-- a need: a path and a version -/
structure Nd where
  path : ByteArray
  a : Int
  b : Int
  c : Int
  pre : ByteArray
/-- its cells; it as a value -/
def Nd.cs (n : Nd) : List Value := [.string n.path, .int .i64 n.a, .int .i64 n.b, .int .i64 n.c, .string n.pre]
def Nd.val (n : Nd) : Value := .agg #[.string n.path, .int .i64 n.a, .int .i64 n.b, .int .i64 n.c, .string n.pre]
def nds : List Nd → List Value
  | [] => []
  | n :: r => .string n.path :: .int .i64 n.a :: .int .i64 n.b :: .int .i64 n.c :: .string n.pre :: nds r
theorem nds_len : ∀ l : List Nd, (nds l).length = l.length * 5 := by
  intro l
  induction l with
  | nil => rfl
  | cons q r ih => simp [nds, ih]; omega
theorem nds_app (l m : List Nd) : nds (l ++ m) = nds l ++ nds m := by
  induction l with
  | nil => rfl
  | cons q r ih => simp [nds, ih]
theorem nds_snoc (l : List Nd) (n : Nd) : nds (l ++ [n]) = nds l ++ n.cs := by rw [nds_app]; rfl
theorem nds_one : ∀ l : List Nd, ∀ u ∈ nds l, u.oneCell' = true := by
  intro l
  induction l with
  | nil => intro u hu; cases hu
  | cons q r ih =>
    intro u hu
    simp only [nds, List.mem_cons] at hu
    rcases hu with rfl | rfl | rfl | rfl | rfl | hu
    · rfl
    · rfl
    · rfl
    · rfl
    · rfl
    · exact ih u hu
theorem nds_get : ∀ (l : List Nd) (k : Nat) (q : Nd), l[k]? = some q →
    (nds l)[k * 5]? = some (.string q.path) ∧ (nds l)[k * 5 + 1]? = some (.int .i64 q.a) ∧ (nds l)[k * 5 + 2]? = some (.int .i64 q.b) ∧ (nds l)[k * 5 + 3]? = some (.int .i64 q.c) ∧ (nds l)[k * 5 + 4]? = some (.string q.pre) := by
  intro l
  induction l with
  | nil => intro k q h; simp at h
  | cons x r ih =>
    intro k q h
    cases k with
    | zero => simp at h; subst h; exact ⟨rfl, rfl, rfl, rfl, rfl⟩
    | succ k =>
      have := ih k q (by simpa using h)
      have e : (k + 1) * 5 = k * 5 + 5 := by omega
      rw [e]
      exact this

/-- v is a slice of the needs l; v owns them -/
def Sd (w : World) (v : Value) (l : List Nd) : Prop := Sn 5 w v l.length (nds l)
def Od (w : World) (lo hi : Nat) (v : Value) (l : List Nd) : Prop := On 5 w lo hi 38 v l.length (nds l)
theorem Od.sd {w : World} {lo hi : Nat} {v : Value} {l : List Nd} (h : Od w lo hi v l) : Sd w v l := On.sn h
theorem Sd.later {w w' : World} {v : Value} {l : List Nd} (h : Sd w v l) (hb : Below w.heap.size w w') : Sd w' v l := Sn.later h hb
/-- where a need of a slice lies -/
theorem Sd.at {w : World} {v : Value} {l : List Nd} (h : Sd w v l) {k : Nat} {q : Nd} (hq : l[k]? = some q) : ∃ b off cap, v = .slice (some ⟨b, off, none⟩) l.length cap ∧ l.length ≤ cap ∧
    w.cell? ⟨b, off + k * 5, none⟩ = some (.string q.path) ∧ w.cell? ⟨b, off + k * 5 + 1, none⟩ = some (.int .i64 q.a) ∧ w.cell? ⟨b, off + k * 5 + 2, none⟩ = some (.int .i64 q.b) ∧ w.cell? ⟨b, off + k * 5 + 3, none⟩ = some (.int .i64 q.c) ∧ w.cell? ⟨b, off + k * 5 + 4, none⟩ = some (.string q.pre) := by
  have hk : k < l.length := (List.getElem?_eq_some_iff.1 hq).1
  obtain ⟨b, off, cap, rfl, hc, hr⟩ := Sn.at h hk
  obtain ⟨h0, h1, h2, h3, h4⟩ := nds_get l k q hq
  refine ⟨b, off, cap, rfl, hc, ?_, ?_, ?_, ?_, ?_⟩
  · have := hr 0 (by omega); rw [Nat.add_zero, h0] at this; exact this
  · have := hr 1 (by omega); rw [h1, ← Nat.add_assoc] at this; exact this
  · have := hr 2 (by omega); rw [h2, ← Nat.add_assoc] at this; exact this
  · have := hr 3 (by omega); rw [h3, ← Nat.add_assoc] at this; exact this
  · have := hr 4 (by omega); rw [h4, ← Nat.add_assoc] at this; exact this

/-- is a need right; do needs rise -/
def Nd.ok (n : Nd) : Bool := fits4 n.path n.a n.b n.c n.pre
def rise : List Nd → Bool
  | [] => true
  | [n] => n.ok
  | n :: m :: r => n.ok && ltT n.path m.path && rise (m :: r)
def needs5 (l : List Nd) : Bool := decide (l.length ≤ 20) && rise l

theorem rise_take {l : List Nd} {k : Nat} (h : rise (l.take (k + 1)) = true) : rise (l.take k) = true := by
  induction l generalizing k with
  | nil => simp [rise]
  | cons n r ih =>
    cases k with
    | zero => simp [rise]
    | succ k =>
      cases r with
      | nil => simpa using h
      | cons m r =>
        cases k with
        | zero =>
          simp [rise] at h ⊢
          exact h.1.1
        | succ k =>
          simp only [List.take_succ_cons] at h ih ⊢
          have h' : (n.ok && ltT n.path m.path && rise (m :: r.take (k + 1))) = true := h
          show (n.ok && ltT n.path m.path && rise (m :: r.take k)) = true
          rw [Bool.and_eq_true] at h' ⊢
          exact ⟨h'.1, ih (k := k + 1) (by simpa using h'.2)⟩
/-- one need more: it must be right, and behind the last -/
theorem rise_snoc : ∀ (l : List Nd) (q : Nd), rise (l ++ [q]) = (rise l && q.ok && (match l.getLast? with | none => true | some p => ltT p.path q.path)) := by
  intro l
  induction l with
  | nil => intro q; simp [rise]
  | cons n r ih =>
    intro q
    cases r with
    | nil =>
      show (n.ok && ltT n.path q.path && q.ok) = (n.ok && q.ok && ltT n.path q.path)
      cases n.ok <;> cases ltT n.path q.path <;> cases q.ok <;> rfl
    | cons m r =>
      have h := ih q
      show (n.ok && ltT n.path m.path && rise (m :: (r ++ [q]))) = _
      rw [show m :: (r ++ [q]) = m :: r ++ [q] from rfl, h]
      rw [List.getLast?_cons_cons]
      show _ = (n.ok && ltT n.path m.path && rise (m :: r) && q.ok && _)
      simp only [Bool.and_assoc]
theorem rise_bad {l : List Nd} {k : Nat} (h : rise (l.take k) = false) : rise l = false := by
  have e : ∀ j, rise (l.take (k + j)) = false := by
    intro j
    induction j with
    | zero => exact h
    | succ j ih =>
      rw [Bool.eq_false_iff] at ih ⊢
      exact fun hh => ih (rise_take hh)
  have := e l.length
  rwa [List.take_of_length_le (by omega)] at this

end Go.Proofs.YtlhmemnaiobgkaaGreatDoor.Ent
