/- Texts in one: Mo5. -/
import Derived.Test.YtlhmemnaiobgkaaGreatDoorPq34
import Derived.Test.YtlhmemnaiobgkaaGreatDoorPq41
import Derived.Test.YtlhmemnaiobgkaaGreatDoorPq32
/- Chapter 16, the landed code: Select. -/
namespace Go.Proofs.YtlhmemnaiobgkaaGreatDoor.Se
open Go.RowKit Go.Proofs.YtlhmemnaiobgkaaGreatDoor.Mem Go.Proofs.YtlhmemnaiobgkaaGreatDoor.Laws Go.Proofs.YtlhmemnaiobgkaaGreatDoor.Ver Go.Proofs.YtlhmemnaiobgkaaGreatDoor.Ent Go.Proofs.YtlhmemnaiobgkaaGreatDoor.Fe
set_option linter.unusedVariables false
set_option linter.unusedSimpArgs false

theorem split_sum (b : Int) : ∀ (l cur : List Int), ((splitL b cur l).map fun x => x.length + 1).sum = l.length + cur.length + 1 := by
  intro l
  induction l with
  | nil => intro cur; simp [splitL]
  | cons c r ih =>
    intro cur
    unfold splitL
    by_cases h : c = b
    · rw [if_pos h, List.map_cons, List.sum_cons, ih]; simp; omega
    · rw [if_neg h, ih]; simp; omega
theorem sum_le {n : Nat} : ∀ (l : List Nat), (∀ x ∈ l, x ≤ n) → l.sum ≤ l.length * n := by
  intro l
  induction l with
  | nil => intro _; simp
  | cons x r ih =>
    intro h
    have h1 := ih (fun y hy => h y (by simp [hy]))
    have h2 := h x (by simp)
    rw [List.sum_cons, List.length_cons, Nat.add_mul]
    omega
theorem okV_size {a b c : Int} {p : ByteArray} (h : okV a b c p = true) : p.size ≤ 100 := by
  unfold okV at h
  rw [Bool.and_eq_true, Bool.or_eq_true, decide_eq_true_eq] at h
  rcases h.2 with h0 | h1
  · omega
  · unfold Ver.pre at h1
    rw [Bool.and_eq_true, List.all_eq_true, decide_eq_true_eq] at h1
    have hs := split_sum 46 (sb p) []
    have hb : ∀ x ∈ (split 46 (sb p)).map (fun x => x.length + 1), x ≤ 9 := by
      intro x hx
      obtain ⟨y, hy, rfl⟩ := List.mem_map.1 hx
      have h2 := h1.1 y hy
      unfold Ver.part at h2
      simp only [Bool.and_eq_true, decide_eq_true_eq] at h2
      have := h2.1.2.2
      omega
    have h3 := sum_le _ hb
    rw [List.length_map] at h3
    have h4 : (sb p).length = p.size := sb_len p
    have h5 : ((split 46 (sb p)).map fun x => x.length + 1).sum = (sb p).length + 0 + 1 := hs
    have h6 := h1.2
    omega
theorem ok_okN {q : Nd} (h : q.ok = true) : okN q := by
  have h1 : fits4 q.path q.a q.b q.c q.pre = true := h
  unfold fits4 at h1
  rw [Bool.and_eq_true, Bool.and_eq_true] at h1
  exact h1.1.2
theorem Rch.okN {l : List Ev} {roots row : List Nd} (h : Rch l roots row) : ∀ q ∈ row, okN q := fun q hq => ok_okN (Hs.ok (h.has q hq))
/-- how the answer is told -/
def SlP (l : List Ev) (s : List Nd) (w : World) (e : Ending) (w' : World) : Prop := ∃ v', e = .returned (.tuple #[v', .int .i64 (select16 l s).2]) ∧ Od w' w.heap.size w'.heap.size v' (select16 l s).1 ∧ Below w.heap.size w w'

set_option maxRecDepth 1000000 in
set_option maxHeartbeats 4000000 in
theorem select_impl (w : World) (hg : As.Hand w) (v1 v2 : Value) (l : List Ev) (s : List Nd) (h1 : Se w v1 l) (h2 : Sd w v2 s) (hl : l.length ≤ 1000000000) (hz : ∀ x ∈ l, Fit9 x) (hs : s.length ≤ 900000000) (hz2 : ∀ x ∈ s, x.path.size ≤ 1000000000000 ∧ x.pre.size ≤ 1000000000000) :
    Calls Tryz.prog 15 #[v1, v2] w fun e w' => SlP l s w e w' := by
  have q1 := reach_impl w hg v1 v2 l s h1 h2 hl hz hs hz2
  unfold RcP at q1
  obtain ⟨hR60, hRz⟩ := reach_size (l := l) (s := s) (D := fun x => x.path.size ≤ 1000000000000) (fun x hx => (hz2 x hx).1) (fun e he n hn => by have h9 := (hz e he).2.2.2 n hn; exact h9.1)
  obtain ⟨R, hR⟩ : ∃ R, (reach16 l s).1 = R := ⟨_, rfl⟩
  obtain ⟨c, hc⟩ : ∃ c, (reach16 l s).2 = c := ⟨_, rfl⟩
  have HSEL : Hid (select16 l s = (sel16 R, c)) := by show _ = _; unfold select16; rw [hR, hc]
  have HN : Hid (c ≠ 0 → R = []) := fun h9 => by
    rcases reach16_code l s with h8 | ⟨h8, _⟩
    · exact absurd (hc.symm.trans h8) h9
    · rw [← hR, h8]
  have HOK : Hid (c = 0 → ∀ q ∈ R, okN q) := fun h9 => by
    rw [← hR]
    exact (reach_rch (l := l) (roots := s) (hc.trans h9)).okN
  rw [hR, hc] at q1
  rw [hR] at hR60 hRz
  have HRZ := Ke.h hRz
  clear hR hc hRz h1 h2
  go_enter Tryz.func15, Tryz.ntmps15
  go_wp2_with fail
  refine q1.mono ?_
  rintro e W1 ⟨v3, rfl, o1, b1⟩
  clear q1
  have B1 : Hid (Below w.heap.size w W1) := b1
  have z1 := b1.size
  by_cases hc0 : c = 0
  · subst hc0
    have hok := HOK.out rfl
    have q2 := latest_impl W1 v3 R (Od.sd o1) (by omega) (fun x hx => ⟨HRZ.out x hx, okV_size (hok x hx)⟩)
    unfold LtP at q2
    have HO := Ke.h hok
    clear hok b1 o1
    go_wp2_with fail
    refine q2.mono ?_
    rintro e W2 ⟨v4, SK, rfl, hp, hpw, o2, b2⟩
    clear q2
    have HV : Hid (Od W2 W1.heap.size W2.heap.size v4 (sel16 R)) := by show Od _ _ _ _ _; rw [← groups_sel HO.out hp hpw]; exact o2
    have B2 := Ke.b B1 b2
    clear o2 hp hpw
    go_wp2
    first | go_ret2 | go_ret
    exact ⟨v4, by rw [HSEL.out]; rfl, by rw [HSEL.out]; exact On.mono HV.out z1 (Nat.le_refl _), B2.out⟩
  · have hRn := HN.out hc0
    have HSEL2 : Hid (select16 l s = ([], c)) := by show _ = _; rw [HSEL.out, hRn]; rfl
    have hcc : (c != 0) = true := by simpa using hc0
    clear hRn o1 b1
    go_wp2
    first | go_ret2 | go_ret
    exact ⟨.slice none 0 0, by rw [HSEL2.out]; rfl, by rw [HSEL2.out]; exact On.nil 5 _ _ _ _, B1.out⟩

end Go.Proofs.YtlhmemnaiobgkaaGreatDoor.Se
