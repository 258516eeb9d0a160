/- Texts in one: Re1. -/
import Derived.Test.YtlhmemnaiobgkaaGreatDoorPq26
import Derived.Test.YtlhmemnaiobgkaaGreatDoorPq41
import Derived.Test.YtlhmemnaiobgkaaGreatDoorPq32
import Derived.Deep.CutRange
/- Chapter 16: FnReached, over contracts of the landed functions. -/
namespace Go.Proofs.YtlhmemnaiobgkaaGreatDoor.Se
open Go.RowKit Go.Proofs.YtlhmemnaiobgkaaGreatDoor.Mem Go.Proofs.YtlhmemnaiobgkaaGreatDoor.Laws Go.Proofs.YtlhmemnaiobgkaaGreatDoor.Bytes Go.Proofs.YtlhmemnaiobgkaaGreatDoor.Ver Go.Proofs.YtlhmemnaiobgkaaGreatDoor.Ent Go.Proofs.YtlhmemnaiobgkaaGreatDoor.Fe Go.Proofs.YtlhmemnaiobgkaaGreatDoor.Draw
set_option linter.unusedVariables false
set_option linter.unusedSimpArgs false

theorem Dw.fits {T : List Ev} (h : ∀ x ∈ T, Dw x) : ∀ e ∈ T, e.n.path.size ≤ 1000000000000 ∧ e.n.pre.size ≤ 1000000000000 ∧ e.l.length ≤ 1000000000 ∧ ∀ x ∈ e.l, x.path.size ≤ 1000000000000 ∧ x.pre.size ≤ 1000000000000 := fun e he => by
  obtain ⟨h1, h2, h3, h4⟩ := h e he
  exact ⟨by omega, by omega, by omega, fun x hx => by have := (h4 x hx).size; omega⟩
theorem Dp.fits {s : List Nd} (h : ∀ x ∈ s, Dp x) : ∀ x ∈ s, x.path.size ≤ 1000000000000 ∧ x.pre.size ≤ 1000000000000 := fun x hx => by have := (h x hx).size; omega
theorem Sd.front8 {w : World} {ao : Option Addr} {cap : Nat} {l r : List Nd} (h : Sd w (.slice ao (l ++ r).length cap) (l ++ r)) : Sd w (.slice ao l.length cap) l := by
  have h9 := Sn.front h l.length (by simp)
  have e : (nds (l ++ r)).take (l.length * 5) = nds l := by
    rw [nds_app, List.take_append_of_le_length (by rw [nds_len]; exact Nat.le_refl _), List.take_of_length_le (by rw [nds_len]; exact Nat.le_refl _)]
  rw [e] at h9
  exact h9
/-- what was found has this name, and its needs are in the row -/
theorem Rch.found {T : List Ev} {s row : List Nd} (h : Rch T s row) {q : Nd} (hq : q ∈ row) : ∃ (N : Nd) (t : List Nd) (ok : Bool), res15 q T = (N, t, ok) ∧ Hid (ok = true) ∧ (∀ n ∈ t, n ∈ row) ∧ ∃ e ∈ T, e.l = t := by
  obtain ⟨e, h1, _, h3⟩ := h.has q hq
  refine ⟨e.n, e.l, true, ?_, rfl, h3, e, (find_name h1).2, rfl⟩
  unfold find15 at h1
  unfold res15
  rw [h1]
theorem nodup_has {row : List Nd} (h : row.Nodup) {k : Nat} {q : Nd} (hq : row[k]? = some q) : has16 (row.take k) q = false := by
  rw [← Bool.not_eq_true, not_congr (has16_iff _ _)]
  intro hm
  obtain ⟨i, hi⟩ := List.mem_iff_getElem?.1 hm
  rw [List.getElem?_take] at hi
  split at hi
  · rename_i hik
    have hkl := (List.getElem?_eq_some_iff.1 hi).1
    have := (List.getElem?_inj hkl h).1 (hi.trans hq.symm)
    omega
  · cases hi

set_option maxRecDepth 1000000 in
set_option maxHeartbeats 3000000 in
theorem reached_law (w : World) (vb : Value) (xs : List Int) (hs : Sl w vb (bs xs)) (hby : Byt xs) (hx : xs.length ≤ maxLen)
    (iR : ∀ W v u T s, Below w.heap.size w W → Se W v T → Sd W u s → T.length ≤ 200 → (∀ x ∈ T, Dw x) → s.length ≤ 8 → (∀ n ∈ s, Dp n) → Calls Tryz.prog 9 #[v, u] W fun e w' => RcP T s W e w')
    (iF : ∀ W v T q, Below w.heap.size w W → Se W v T → T.length ≤ 200 → (∀ x ∈ T, Dw x) → Dp q → Calls Tryz.prog 12 #[v, .string q.path, .agg #[.int .i64 q.a, .int .i64 q.b, .int .i64 q.c, .string q.pre]] W fun e w' => ∃ u', e = .returned (.tuple #[.agg #[.string (res15 q T).1.path, .int .i64 (res15 q T).1.a, .int .i64 (res15 q T).1.b, .int .i64 (res15 q T).1.c, .string (res15 q T).1.pre, u'], .bool (res15 q T).2.2]) ∧ Od w' W.heap.size w'.heap.size u' (res15 q T).2.1 ∧ Below W.heap.size W w') :
    Calls Tryz.prog 3 #[vb] w fun e w' => e = .returned (.bool true) ∧ Below w.heap.size w w' := by
  have HSL : Hid (Sl w vb (bs xs)) := hs
  unfold maxLen at hx
  obtain ⟨ao0, cap0, rfl, hc0⟩ := hs.form
  rw [bs_len] at *
  clear hs
  by_cases hbig : 1048576 < xs.length
  · go_enter Tryz.func3, Tryz.ntmps3
    go_wp2_with (go_at_call 7; refine (big_yes _ _ _ _ hbig).mono ?_; rintro e w1 ⟨rfl, rfl⟩)
    go_ret
    exact ⟨rfl, Below.refl _ _⟩
  have qd := drawReach_any w _ xs HSL.out hby (by omega)
  unfold DrP at qd
  go_enter Tryz.func3, Tryz.ntmps3
  go_wp2_with fail
  refine (big_no _ _ _ _ hbig).mono ?_
  rintro e w_ ⟨rfl, hw_⟩
  subst hw_
  go_wp2_with fail
  refine qd.mono ?_
  rintro e W1 ⟨v1, v2, T, s, rfl, hT2, hTw, hs8, hsp, hse, hsd, b1⟩
  have HT := Ke.h hTw
  have HP := Ke.h hsp
  have HSE : Hid (Se W1 v1 T) := hse
  have HSD : Hid (Sd W1 v2 s) := hsd
  have B1 : Hid (Below w.heap.size w W1) := b1
  obtain ⟨ao1, cap1, rfl, hcap1⟩ := hse.form
  obtain ⟨_, ao2, cap2, rfl, hcap2, _, _⟩ := hsd
  clear hTw hsp hse b1 qd
  have q1 := iR W1 _ _ T s B1.out HSE.out HSD.out hT2 HT.out hs8 HP.out
  unfold RcP at q1
  obtain ⟨hR60, hRD⟩ := reach_size (l := T) (s := s) (D := Dp) HP.out (fun e he => (HT.out e he).2.2.2)
  obtain ⟨R, hR⟩ : ∃ R, (reach16 T s).1 = R := ⟨_, rfl⟩
  obtain ⟨c, hc⟩ : ∃ c, (reach16 T s).2 = c := ⟨_, rfl⟩
  have HN : Hid (c ≠ 0 → R = []) := fun h9 => by rcases reach16_code T s with h8 | ⟨h8, _⟩; exact absurd (hc.symm.trans h8) h9; rw [← hR, h8]
  have HRC : Hid (c = 0 → Rch T s R) := fun h9 => by rw [← hR]; exact reach_rch (hc.trans h9)
  rw [hR, hc] at q1
  rw [hR] at hR60 hRD
  have HRD := Ke.h hRD
  go_wp2_with fail
  refine q1.mono ?_
  rintro e W2 ⟨v3, rfl, o3, b2⟩
  clear q1
  have D2 : Hid (Below W1.heap.size W1 W2) := b2
  have q2 := reach_spec W2 _ _ T s (HSE.out.later D2.out) (HSD.out.later D2.out) (by omega) (by omega) (Dw.fits HT.out) (Dp.fits HP.out)
  rw [hc] at q2
  clear hR hc hRD
  obtain ⟨a3, c3, rfl⟩ := Od.slice o3
  have HO2 : Hid (Sd W2 (.slice a3 R.length c3) R) := o3.sd
  have hc3 : R.length ≤ c3 := by obtain ⟨_, a9, c9, he9, h9, _⟩ := HO2.out; simp only [Value.slice.injEq] at he9; omega
  clear b2 o3
  go_wp2_with fail
  refine q2.mono ?_
  rintro e W3 ⟨v4, rfl, _, b3⟩
  clear q2
  have D3 : Hid (Below W1.heap.size W1 W3) := D2.out.trans (b3.mono D2.out.size)
  have HO3 := Ke.h (HO2.out.later b3)
  clear b3 HO2 D2
  have nc : (c != c) = false := by simp
  have eqc : (c == c) = true := by simp
  by_cases hc0 : c = 0
  · subst hc0
    have HR := Ke.h (HRC.out rfl)
    obtain ⟨t0, ht0⟩ := HR.out.app
    have HAPP := Ke.h ht0
    have hlen : s.length ≤ R.length := by rw [ht0]; simp
    have hsf : Sd W3 (.slice a3 s.length c3) s := by have h9 := HO3.out; rw [ht0] at h9; exact Sd.front8 h9
    clear ht0
    have q3 := same_needs W3 (.slice a3 s.length c3) (.slice ao2 s.length cap2) s hsf (HSD.out.later D3.out) (by omega)
    have l1 : ¬ (R.length : Int) < (s.length : Int) := by omega
    have l2 : ¬ (60 : Int) < (R.length : Int) := by omega
    have l1n : ¬ R.length < s.length := by omega
    have l1b : decide (R.length < s.length) = false := decide_eq_false l1n
    have l1c : decide ((R.length : Int) < (s.length : Int)) = false := decide_eq_false l1
    have l2b : decide ((60 : Int) < (R.length : Int)) = false := decide_eq_false l2
    have l3 : (s.length : Int) ≤ (c3 : Int) := by omega
    have l4 : s.length ≤ c3 := by omega
    clear hsf
    go_wp2_with fail
    refine q3.mono ?_
    rintro e W4 ⟨rfl, b4⟩
    clear q3
    have D4 := Ke.b D3 b4
    have HO4 := Ke.h (HO3.out.later b4)
    have HSE4 := Ke.h (HSE.out.later D4.out)
    have B4 : Hid (Below w.heap.size w W4) := B1.out.trans (D4.out.mono B1.out.size)
    clear b4 HO3 D3 D4 B1 HSE HSD l3 l4
    go_wp2_with fail
    go_loopw [9] (fun iv wr => ∃ k : Nat, k ≤ R.length ∧ iv = .int .i64 (k : Int) ∧ Hid (Below W4.heap.size W4 wr)) (fun iv _ => R.length - (intOf iv).toNat)
    case atStart => exact ⟨0, Nat.zero_le _, rfl, Below.refl _ _⟩
    case round =>
      obtain ⟨k, hk, rfl, D5⟩ := hrel
      obtain ⟨W5, hW5⟩ : ∃ X, X = wr := ⟨_, rfl⟩
      subst hW5
      by_cases hlt : k < R.length
      · have hlt2 : (k : Int) < (R.length : Int) := by omega
        obtain ⟨q, hq⟩ : ∃ q, R[k]? = some q := ⟨R[k], by simp [hlt]⟩
        have HX := Ke.h hq
        have hqm := List.mem_of_getElem? hq
        obtain ⟨b, off, cap9, he, _, m0, m1, m2, m3, m4⟩ := Sd.at (HO4.out.later D5.out) hq
        simp only [Value.slice.injEq] at he
        obtain ⟨rfl, _, rfl⟩ := he
        clear hq
        obtain ⟨N, t, ok, hR15, HOK, htR, ev, hev, hevl⟩ := HR.out.found hqm
        have ht8 : t.length ≤ 8 := by rw [← hevl]; exact (HT.out ev hev).2.2.1
        have HTR := Ke.h htR
        clear htR hev hevl ev
        have q3 : ∀ W, Below W5.heap.size W5 W → _ := fun W hW => iF W (.slice ao1 T.length cap1) T q (B4.out.trans ((D5.out.trans (hW.mono D5.out.size)).mono B4.out.size)) (HSE4.out.later (D5.out.trans (hW.mono D5.out.size))) hT2 HT.out (HRD.out q hqm)
        simp only [hR15] at q3
        clear hR15 hqm
        go_upto_region 13 with fail
        go_cut [10, 11] from 66 to 113 (fun s8 s9 wx => ∃ g : Nat, s8 = .pointer (some ⟨g, 0, none⟩) ∧ s9 = .bool ok ∧ W5.heap.size ≤ g ∧ g < wx.heap.size ∧ Below W5.heap.size W5 wx ∧ ∃ (lo2 hi2 : Nat) (ao5 : Option Addr) (L5 cap5 : Nat), W5.heap.size ≤ lo2 ∧ lo2 ≤ hi2 ∧ hi2 ≤ wx.heap.size ∧ Od wx lo2 hi2 (.slice ao5 L5 cap5) t ∧ (g < lo2 ∨ hi2 ≤ g) ∧ wx.heap[g]? = some (.cells #[.string N.path, .int .i64 N.a, .int .i64 N.b, .int .i64 N.c, .string N.pre, .slice ao5 L5 cap5] 34 (0, 0)))
        case first =>
          refine wp_region_held_drew (S := fun w' => w'.cell? ⟨b, off + k * 5, none⟩ = some (.string q.path) ∧ w'.cell? ⟨b, off + k * 5 + 1, none⟩ = some (.int .i64 q.a) ∧ w'.cell? ⟨b, off + k * 5 + 2, none⟩ = some (.int .i64 q.b) ∧ w'.cell? ⟨b, off + k * 5 + 3, none⟩ = some (.int .i64 q.c) ∧ w'.cell? ⟨b, off + k * 5 + 4, none⟩ = some (.string q.pre)) (by kernel_rfl) ⟨m0, m1, m2, m3, m4⟩ (fun hHeld => ?_)
          refine Ke.y 0 rfl (fun _ _ _ h => h) ?_
          try simp only [Act.put, pu1, pu2, pu3, pu4, pu5, pu6]
          refine Ke.y 1 rfl (fun _ _ _ h => h) ?_
          try simp only [Act.put, pu1, pu2, pu3, pu4, pu5, pu6]
          refine Ke.y 2 rfl (fun _ _ _ h => h) ?_
          try simp only [Act.put, pu1, pu2, pu3, pu4, pu5, pu6]
          refine Ke.y 3 rfl (fun _ _ _ h => h) ?_
          try simp only [Act.put, pu1, pu2, pu3, pu4, pu5, pu6]
          refine Ke.y 4 rfl (fun _ _ _ h => h) ?_
          try simp only [Act.put, pu1, pu2, pu3, pu4, pu5, pu6]
          refine Ke.y 5 rfl (fun _ _ _ h => h) ?_
          try simp only [Act.put, pu1, pu2, pu3, pu4, pu5, pu6]
          refine Ke.y 6 rfl (fun _ _ _ h => h) ?_
          try simp only [Act.put, pu1, pu2, pu3, pu4, pu5, pu6]
          refine Ke.y 7 rfl (fun _ _ _ h => h) ?_
          try simp only [Act.put, pu1, pu2, pu3, pu4, pu5, pu6]
          refine Ke.y 8 rfl (fun _ _ _ h => h) ?_
          try simp only [Act.put, pu1, pu2, pu3, pu4, pu5, pu6]
          refine Ke.y 9 rfl (fun _ _ _ h => h) ?_
          try simp only [Act.put, pu1, pu2, pu3, pu4, pu5, pu6]
          refine Ke.y 10 rfl (fun _ _ _ h => h) ?_
          try simp only [Act.put, pu1, pu2, pu3, pu4, pu5, pu6]
          obtain ⟨Wd, HWd, bd⟩ : ∃ X, Hid (W5.drew = X) ∧ Below W5.heap.size W5 X := ⟨_, rfl, Below.drew (Below.refl _ _)⟩
          have HHWd := HWd.out
          rw [HHWd] at hHeld ⊢
          clear HHWd
          have zd := bd.size
          have hbw : b < W5.heap.size := World.block_lt_of_cell? W5 _ m0
          refine wpAnyH_two (i := 11) (k := 15) (by kernel_rfl) ?wJ ?wK
          case wJ =>
            refine wpOp_weak rfl (fun K hK => ?_)
            go_simp
            refine (q3 Wd bd).mono ?_
            rintro e X6 ⟨u2, rfl, o2, b2⟩
            obtain ⟨ao5, L5, cap5, rfl⟩ : ∃ ao L cap, u2 = .slice ao L cap := by obtain ⟨ao, cap, e9⟩ := Od.slice o2; exact ⟨ao, _, cap, e9⟩
            have z6 := b2.size
            have D6 : Below W5.heap.size W5 X6 := bd.trans (b2.mono bd.size)
            have od := o2
            refine hK.out _ _ ⟨(S5.keep (b := b) (o := off + k * 5) (x := q) hHeld b2), ?_⟩
            have hHeld := (S5.keep (b := b) (o := off + k * 5) (x := q) hHeld b2)
            unfold S5 at hHeld
            clear hK K
            try simp only [Act.put, pu1, pu2, pu3, pu4, pu5, pu6]
            refine Ke.y 12 rfl (fun _ _ _ h => h) ?_
            try simp only [Act.put, pu1, pu2, pu3, pu4, pu5, pu6]
            refine Ke.y 13 rfl (fun _ _ _ h => h) ?_
            try simp only [Act.put, pu1, pu2, pu3, pu4, pu5, pu6]
            refine Ke.y 14 rfl (fun _ _ _ h => h) ?_
            try simp only [Act.put, pu1, pu2, pu3, pu4, pu5, pu6]
            refine Ke.z 15 rfl (fun K hK => ?_)
            go_simp
            obtain ⟨X7, HX7, b7, y7, hS7, rr⟩ := Ke.l1 X6 #[.string ⟨#[]⟩, .int .i64 0, .int .i64 0, .int .i64 0, .string ⟨#[]⟩, .slice none 0 0] 34
            refine hK.out _ _ (S5.keep (b := b) (o := off + k * 5) (x := q) hHeld ((Below.refl _ _).alloc (Nat.le_refl _) _)) (fun hHeld => ?_)
            clear hK K
            try simp only [Act.put, pu1, pu2, pu3, pu4, pu5, pu6]
            have HHW := HX7.out
            rw [HHW] at hHeld ⊢
            clear HHW
            have od : Od X7 Wd.heap.size X6.heap.size (.slice ao5 L5 cap5) t := On.later od b7 (by omega)
            have D7 : Below W5.heap.size W5 X7 := D6.trans (b7.mono D6.size)
            have zz : X6.heap.size ≤ X7.heap.size := b7.size
            have hg3 := rr.out
            refine Ke.z 16 rfl (fun K hK => ?_)
            rw [if_pos (by rfl)]
            refine wp_partG 34 _ _ rfl (X6.heap.size) 0 (ec N (.slice ao5 L5 cap5)) rfl rfl [.string ⟨#[]⟩, .int .i64 0, .int .i64 0, .int .i64 0, .string ⟨#[]⟩, .slice none 0 0] 34 hg3 (Nat.le_of_ble_eq_true rfl) (sizeE _ _) (oneE _ rfl) [.string N.path, .int .i64 N.a, .int .i64 N.b, .int .i64 N.c, .string N.pre, .slice ao5 L5 cap5] rfl ?_
            intro WZ rz gz
            refine hK.out _ _ ⟨cellGro hHeld.1 gz (by intro h9; injection h9 with h9; first | (replace h9 : (X6.heap.size) = b := h9; omega) | (replace h9 : b = (X6.heap.size) := h9; omega)), cellGro hHeld.2.1 gz (by intro h9; injection h9 with h9; first | (replace h9 : (X6.heap.size) = b := h9; omega) | (replace h9 : b = (X6.heap.size) := h9; omega)), cellGro hHeld.2.2.1 gz (by intro h9; injection h9 with h9; first | (replace h9 : (X6.heap.size) = b := h9; omega) | (replace h9 : b = (X6.heap.size) := h9; omega)), cellGro hHeld.2.2.2.1 gz (by intro h9; injection h9 with h9; first | (replace h9 : (X6.heap.size) = b := h9; omega) | (replace h9 : b = (X6.heap.size) := h9; omega)), cellGro hHeld.2.2.2.2 gz (by intro h9; injection h9 with h9; first | (replace h9 : (X6.heap.size) = b := h9; omega) | (replace h9 : b = (X6.heap.size) := h9; omega))⟩ (fun hHeld => ?_)
            clear hK K
            try simp only [Act.put, pu1, pu2, pu3, pu4, pu5, pu6]
            have hzz := gz.size
            have oz := od_gro9 od gz (fun k9 h9 => by injection h9 with h9; omega)
            have Dz : Below W5.heap.size W5 WZ := belowGro D7 gz D7.size (fun k9 h9 => by injection h9 with h9; omega)
            refine Ke.y 17 rfl (fun _ _ _ h => h) ?_
            try simp only [Act.put, pu1, pu2, pu3, pu4, pu5, pu6]
            refine wpAnyH_done (by kernel_rfl) ?_ _
            clear hHeld
            go_wp2_with fail
            go_meet
            exact ⟨X6.heap.size, rfl, rfl, by omega, (Array.getElem?_eq_some_iff.1 rz).1, Dz, Wd.heap.size, X6.heap.size, ao5, L5, cap5, by omega, by omega, by omega, oz, by omega, rz⟩
          case wK =>
            refine wpOp_weak rfl (fun K hK => ?_)
            go_simp
            obtain ⟨Wa, HWa, ba, ya, hSa, ra⟩ := Ke.l1 Wd #[.string ⟨#[]⟩, .int .i64 0, .int .i64 0, .int .i64 0, .string ⟨#[]⟩, .slice none 0 0] 34
            refine hK.out _ _ ⟨(S5.keep (b := b) (o := off + k * 5) (x := q) hHeld ((Below.refl _ _).alloc (Nat.le_refl _) _)), ?_⟩
            have hHeld := (S5.keep (b := b) (o := off + k * 5) (x := q) hHeld ((Below.refl _ _).alloc (Nat.le_refl _) (.cells #[.string ⟨#[]⟩, .int .i64 0, .int .i64 0, .int .i64 0, .string ⟨#[]⟩, .slice none 0 0] 34)))
            unfold S5 at hHeld
            clear hK K
            try simp only [Act.put, pu1, pu2, pu3, pu4, pu5, pu6]
            have HHW := HWa.out
            rw [HHW] at hHeld ⊢
            clear HHW
            have za := ba.size
            have Da : Below W5.heap.size W5 Wa := bd.trans (ba.mono bd.size)
            refine Ke.z 11 rfl (fun K hK => ?_)
            go_simp
            refine (q3 Wa Da).mono ?_
            rintro e X6 ⟨u2, rfl, o2, b2⟩
            obtain ⟨ao5, L5, cap5, rfl⟩ : ∃ ao L cap, u2 = .slice ao L cap := by obtain ⟨ao, cap, e9⟩ := Od.slice o2; exact ⟨ao, _, cap, e9⟩
            have z6 := b2.size
            have D6 : Below W5.heap.size W5 X6 := Da.trans (b2.mono Da.size)
            have od := o2
            have hg3 := (Ke.r ra b2).out
            refine hK.out _ _ (S5.keep (b := b) (o := off + k * 5) (x := q) hHeld b2) (fun hHeld => ?_)
            clear hK K
            try simp only [Act.put, pu1, pu2, pu3, pu4, pu5, pu6]
            refine Ke.y 12 rfl (fun _ _ _ h => h) ?_
            try simp only [Act.put, pu1, pu2, pu3, pu4, pu5, pu6]
            refine Ke.y 13 rfl (fun _ _ _ h => h) ?_
            try simp only [Act.put, pu1, pu2, pu3, pu4, pu5, pu6]
            refine Ke.y 14 rfl (fun _ _ _ h => h) ?_
            try simp only [Act.put, pu1, pu2, pu3, pu4, pu5, pu6]
            refine Ke.z 16 rfl (fun K hK => ?_)
            rw [if_pos (by rfl)]
            refine wp_partG 34 _ _ rfl (Wd.heap.size) 0 (ec N (.slice ao5 L5 cap5)) rfl rfl [.string ⟨#[]⟩, .int .i64 0, .int .i64 0, .int .i64 0, .string ⟨#[]⟩, .slice none 0 0] 34 hg3 (Nat.le_of_ble_eq_true rfl) (sizeE _ _) (oneE _ rfl) [.string N.path, .int .i64 N.a, .int .i64 N.b, .int .i64 N.c, .string N.pre, .slice ao5 L5 cap5] rfl ?_
            intro WZ rz gz
            refine hK.out _ _ ⟨cellGro hHeld.1 gz (by intro h9; injection h9 with h9; first | (replace h9 : (Wd.heap.size) = b := h9; omega) | (replace h9 : b = (Wd.heap.size) := h9; omega)), cellGro hHeld.2.1 gz (by intro h9; injection h9 with h9; first | (replace h9 : (Wd.heap.size) = b := h9; omega) | (replace h9 : b = (Wd.heap.size) := h9; omega)), cellGro hHeld.2.2.1 gz (by intro h9; injection h9 with h9; first | (replace h9 : (Wd.heap.size) = b := h9; omega) | (replace h9 : b = (Wd.heap.size) := h9; omega)), cellGro hHeld.2.2.2.1 gz (by intro h9; injection h9 with h9; first | (replace h9 : (Wd.heap.size) = b := h9; omega) | (replace h9 : b = (Wd.heap.size) := h9; omega)), cellGro hHeld.2.2.2.2 gz (by intro h9; injection h9 with h9; first | (replace h9 : (Wd.heap.size) = b := h9; omega) | (replace h9 : b = (Wd.heap.size) := h9; omega))⟩ (fun hHeld => ?_)
            clear hK K
            try simp only [Act.put, pu1, pu2, pu3, pu4, pu5, pu6]
            have hzz := gz.size
            have oz := od_gro9 od gz (fun k9 h9 => by injection h9 with h9; omega)
            have Dz : Below W5.heap.size W5 WZ := belowGro D6 gz D6.size (fun k9 h9 => by injection h9 with h9; omega)
            refine Ke.y 17 rfl (fun _ _ _ h => h) ?_
            try simp only [Act.put, pu1, pu2, pu3, pu4, pu5, pu6]
            refine wpAnyH_done (by kernel_rfl) ?_ _
            clear hHeld
            go_wp2_with fail
            go_meet
            exact ⟨Wd.heap.size, rfl, rfl, by omega, (Array.getElem?_eq_some_iff.1 rz).1, Dz, Wa.heap.size, X6.heap.size, ao5, L5, cap5, by omega, by omega, by omega, oz, by omega, rz⟩
        case rest =>
        obtain ⟨g5, rfl, rfl, hg1, hg2, b5, lo2, hi2, ao5, L5, cap5, d1, d2, d3, od, hgf, rr⟩ := hcut
        revert hg2 b5 d3 od rr
        generalize wc = W6
        intro hg2 b5 d3 od rr
        have hok := HOK.out
        subst hok
        have D6 := Ke.b D5 b5
        have r_e := Ke.h rr
        have hL : ∃ a c, Value.slice ao5 L5 cap5 = .slice a t.length c := by obtain ⟨a, c, e9⟩ := Od.slice od; exact ⟨a, c, e9⟩
        obtain ⟨a9, c9, e9⟩ := hL
        simp only [Value.slice.injEq] at e9
        obtain ⟨rfl, rfl, rfl⟩ := e9
        have HN6 : Hid (Sd W6 (.slice ao5 t.length cap5) t) := od.sd
        have m0 := keepR m0 b5
        have m1 := keepR m1 b5
        have m2 := keepR m2 b5
        have m3 := keepR m3 b5
        have m4 := keepR m4 b5
        clear rr od q3 b5
        have HRk : Hid (Sd W6 (.slice (some ⟨b, off, none⟩) (R.take k).length c3) (R.take k)) := by have h9 := HO4.out.later D6.out; show Sd _ _ _; rw [← List.take_append_drop k R] at h9; exact Sd.front8 h9
        have htk : (R.take k).length = k := by simp; omega
        have hhas := nodup_has HR.out.nodup HX.out
        have qh : ∀ W, Below W6.heap.size W6 W → _ := fun W hW => has_law W (.slice (some ⟨b, off, none⟩) (R.take k).length c3) (R.take k) q (HRk.out.later hW) (by rw [htk]; omega)
        simp only [hhas, htk] at qh
        have l5 : k ≤ c3 := by omega
        have l6 : (k : Int) ≤ (c3 : Int) := by omega
        clear htk hhas HRk
        go_upto_region 14 with fail
        refine wp_region_held_drew (S := fun w' => w'.cell? ⟨b, off + k * 5, none⟩ = some (.string q.path) ∧ w'.cell? ⟨b, off + k * 5 + 1, none⟩ = some (.int .i64 q.a) ∧ w'.cell? ⟨b, off + k * 5 + 2, none⟩ = some (.int .i64 q.b) ∧ w'.cell? ⟨b, off + k * 5 + 3, none⟩ = some (.int .i64 q.c) ∧ w'.cell? ⟨b, off + k * 5 + 4, none⟩ = some (.string q.pre)) (by kernel_rfl) ⟨m0, m1, m2, m3, m4⟩ (fun hHeld => ?_)
        obtain ⟨Wd, HWd, bd⟩ : ∃ X, Hid (W6.drew = X) ∧ Below W6.heap.size W6 X := ⟨_, rfl, Below.drew (Below.refl _ _)⟩
        have HHWd := HWd.out
        rw [HHWd] at hHeld ⊢
        clear HHWd
        refine Ke.y 0 rfl (fun _ _ _ h => h) ?_
        try simp only [Act.put, pu1, pu2, pu3, pu4, pu5, pu6]
        refine Ke.y 1 rfl (fun _ _ _ h => h) ?_
        try simp only [Act.put, pu1, pu2, pu3, pu4, pu5, pu6]
        refine Ke.y 2 rfl (fun _ _ _ h => h) ?_
        try simp only [Act.put, pu1, pu2, pu3, pu4, pu5, pu6]
        refine Ke.y 3 rfl (fun _ _ _ h => h) ?_
        try simp only [Act.put, pu1, pu2, pu3, pu4, pu5, pu6]
        refine Ke.y 4 rfl (fun _ _ _ h => h) ?_
        try simp only [Act.put, pu1, pu2, pu3, pu4, pu5, pu6]
        refine Ke.y 5 rfl (fun _ _ _ h => h) ?_
        try simp only [Act.put, pu1, pu2, pu3, pu4, pu5, pu6]
        refine Ke.y 6 rfl (fun _ _ _ h => h) ?_
        try simp only [Act.put, pu1, pu2, pu3, pu4, pu5, pu6]
        refine Ke.y 7 rfl (fun _ _ _ h => h) ?_
        try simp only [Act.put, pu1, pu2, pu3, pu4, pu5, pu6]
        refine Ke.y 8 rfl (fun _ _ _ h => h) ?_
        try simp only [Act.put, pu1, pu2, pu3, pu4, pu5, pu6]
        refine Ke.y 9 rfl (fun _ _ _ h => h) ?_
        try simp only [Act.put, pu1, pu2, pu3, pu4, pu5, pu6]
        refine Ke.z 10 rfl (fun K hK => ?_)
        go_simp
        refine (qh Wd bd).mono ?_
        rintro e W7 ⟨rfl, b7⟩
        refine hK.out _ _ (S5.keep (b := b) (o := off + k * 5) (x := q) hHeld b7) (fun hHeld => ?_)
        clear hK K
        try simp only [Act.put, pu1, pu2, pu3, pu4, pu5, pu6]
        refine Ke.y 11 rfl (fun _ _ _ h => h) ?_
        try simp only [Act.put, pu1, pu2, pu3, pu4, pu5, pu6]
        refine wpAnyH_done (by kernel_rfl) ?_ _
        clear hHeld qh l5 l6 m0 m1 m2 m3 m4
        have b67 := bd.trans (b7.mono bd.size)
        have D7 := Ke.b D6 b67
        have r_e7 := Ke.r r_e b67
        have HN7 := Ke.h (HN6.out.later b67)
        clear b67 b7 bd HN6 r_e
        go_wp2_with fail
        go_loopw [12] (fun jv wr => ∃ j : Nat, j ≤ t.length ∧ jv = .int .i64 (j : Int) ∧ Hid (Below W7.heap.size W7 wr)) (fun jv _ => t.length - (intOf jv).toNat)
        case atStart => exact ⟨0, Nat.zero_le _, rfl, Below.refl _ _⟩
        case round =>
          obtain ⟨j, hj, rfl, D8⟩ := hrel
          obtain ⟨W8, hW8⟩ : ∃ X, X = wr := ⟨_, rfl⟩
          subst hW8
          have r_e8 := Ke.r r_e7 D8.out
          have c_e8 := Ke.c r_e8
          have D48 : Hid (Below W4.heap.size W4 W8) := D7.out.trans (D8.out.mono D7.out.size)
          by_cases hjt : j < t.length
          · have hjt2 : (j : Int) < (t.length : Int) := by omega
            obtain ⟨n, hn⟩ : ∃ n, t[j]? = some n := ⟨t[j], by simp [hjt]⟩
            have hnm := HTR.out n (List.mem_of_getElem? hn)
            obtain ⟨b2, off2, cap8, he, _, u0, u1, u2, u3, u4⟩ := Sd.at (HN7.out.later D8.out) hn
            simp only [Value.slice.injEq] at he
            obtain ⟨rfl, _, rfl⟩ := he
            clear hn
            have qh := has_law W8 (.slice (some ⟨b, off, none⟩) R.length c3) R n (HO4.out.later D48.out) (by omega)
            rw [(has16_iff R n).2 hnm] at qh
            clear hnm
            go_wp2_with fail
            refine qh.mono ?_
            rintro e W9 ⟨rfl, b9⟩
            clear qh u0 u1 u2 u3 u4 c_e8
            have D9 := Ke.b D8 b9
            go_wp2
            go_roundw
            case rel => exact ⟨j + 1, by omega, by go_num, D9⟩
            case measure => simp [intOf]; omega
          · have hjt2 : ¬ (j : Int) < (t.length : Int) := by omega
            go_wp2
            go_roundw
            case rel => first | exact ⟨k + 1, by omega, by go_num, D48⟩ | exact ⟨k + 1, by omega, by go_num⟩
            case measure => simp [intOf]; omega
      · have hlt2 : ¬ (k : Int) < (R.length : Int) := by omega
        go_wp2
        go_ret
        exact ⟨rfl, B4.out.trans (D5.out.mono B4.out.size)⟩
  · have hR0 := HN.out hc0
    subst hR0
    have nz : (c != 0) = true := by simpa using hc0
    have B3 : Hid (Below w.heap.size w W3) := B1.out.trans (D3.out.mono B1.out.size)
    go_wp2
    go_ret
    exact ⟨by first | rfl | simp, B3.out⟩

end Go.Proofs.YtlhmemnaiobgkaaGreatDoor.Se
