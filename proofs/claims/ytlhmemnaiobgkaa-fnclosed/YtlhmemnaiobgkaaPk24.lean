/- Texts in one: Fg6, SeG. -/
import Derived.Test.YtlhmemnaiobgkaaPk23
import Derived.Test.YtlhmemnaiobgkaaPk20
import Derived.Test.YtlhmemnaiobgkaaPk21
import Derived.Deep.DeepCutAuto
/- Chapter 15: the exact law of FindEntry, over a contract of the landed function. -/
namespace Go.Proofs.Ytlhmemnaiobgkaa.Fe
open Go.RowKit Go.Proofs.Ytlhmemnaiobgkaa.Mem Go.Proofs.Ytlhmemnaiobgkaa.Laws Go.Proofs.Ytlhmemnaiobgkaa.Ver Go.Proofs.Ytlhmemnaiobgkaa.Ent Go.Proofs.Ytlhmemnaiobgkaa.Strs
set_option linter.unusedVariables false
set_option linter.unusedSimpArgs false

theorem Od.gro9 {w w' : World} {lo hi g : Nat} {v : Value} {l : List Nd} (h : Od w lo hi v l) (gr : w.grownBy w' (some g)) (hr : ∀ k, some g = some k → k < lo ∨ hi ≤ k) : Od w' lo hi v l :=
  On.keep1 h (fun j hj => gr.block j (On.lt h hj).2.2 (fun e9 => by have h1 := On.lt h hj; have h2 := hr j (by rw [← e9]); omega))
theorem Oes.gro9 {w w' : World} {lo hi g : Nat} {v : Value} {T : List Ev} (h : Oes w lo hi v T) (gr : w.grownBy w' (some g)) (hr : ∀ k, some g = some k → k < lo ∨ hi ≤ k) : Oes w' lo hi v T :=
  ⟨On.keep1 h.1 (fun j hj => gr.block j (On.lt h.1 hj).2.2 (fun e9 => by have h1 := On.lt h.1 hj; have h2 := hr j (by rw [← e9]); omega)),
   h.2.keep fun x hx j hj => gr.block j (On.lt (h.2.1 x hx) hj).2.2 (fun e9 => by have h1 := On.lt (h.2.1 x hx) hj; have h2 := hr j (by rw [← e9]); omega)⟩
theorem res_alk {q : Nd} : ∀ {l T : List Ev}, Alk l T → res15 q T = res15 q l := by
  intro l
  induction l with
  | nil =>
    intro T h
    have : T = [] := List.eq_nil_of_length_eq_zero (by have := h.len; simpa using this)
    subst this
    rfl
  | cons x r ih =>
    intro T h
    cases T with
    | nil => have := h.len; simp at this
    | cons y s =>
      have h9 : key15 y :: s.map key15 = key15 x :: r.map key15 := h
      obtain ⟨h1, h2⟩ := List.cons.inj h9
      simp only [key15, Prod.mk.injEq] at h1
      have h3 := ih (T := s) h2
      unfold res15 at h3 ⊢
      rw [List.find?_cons, List.find?_cons, h1.1]
      cases isN q x.n with
      | true => simp only [h1.1, h1.2]
      | false => exact h3
theorem res_len (q : Nd) : ∀ (l : List Ev) (B : Nat), (∀ x ∈ l, x.l.length ≤ B) → (res15 q l).2.1.length ≤ B := by
  intro l B h
  unfold res15
  cases hf : l.find? (fun x => isN q x.n) with
  | none => exact Nat.zero_le _
  | some x => exact h x (List.mem_of_find?_eq_some hf)

end Go.Proofs.Ytlhmemnaiobgkaa.Fe

/- Chapter 16: FnClosed, over contracts of the landed functions. -/
namespace Go.Proofs.Ytlhmemnaiobgkaa.Se
open Go.RowKit Go.Proofs.Ytlhmemnaiobgkaa.Mem Go.Proofs.Ytlhmemnaiobgkaa.Laws Go.Proofs.Ytlhmemnaiobgkaa.Bytes Go.Proofs.Ytlhmemnaiobgkaa.Ver Go.Proofs.Ytlhmemnaiobgkaa.Ent Go.Proofs.Ytlhmemnaiobgkaa.Fe Go.Proofs.Ytlhmemnaiobgkaa.Draw
set_option linter.unusedVariables false
set_option linter.unusedSimpArgs false

def S5 (b o : Nat) (x : Nd) (w' : World) : Prop := w'.cell? ⟨b, o, none⟩ = some (.string x.path) ∧ w'.cell? ⟨b, o + 1, none⟩ = some (.int .i64 x.a) ∧ w'.cell? ⟨b, o + 2, none⟩ = some (.int .i64 x.b) ∧ w'.cell? ⟨b, o + 3, none⟩ = some (.int .i64 x.c) ∧ w'.cell? ⟨b, o + 4, none⟩ = some (.string x.pre)
theorem S5.keep {b o : Nat} {x : Nd} {W W' : World} (h : S5 b o x W) (hb : Below W.heap.size W W') : S5 b o x W' := ⟨keepR h.1 hb, keepR h.2.1 hb, keepR h.2.2.1 hb, keepR h.2.2.2.1 hb, keepR h.2.2.2.2 hb⟩
theorem shut_res (T : List Ev) (s : List Nd) (q : Nd) : shut1 T s q = ((res15 q T).2.2 && covers16 s (res15 q T).2.1) := by
  unfold shut1 res15 find15
  cases T.find? (fun x => isN q x.n) with
  | none => rfl
  | some e => rfl
theorem res_dy {T : List Ev} (hT : ∀ x ∈ T, Dy x) (q : Nd) : (res15 q T).2.1.length ≤ 3 ∧ ∀ n ∈ (res15 q T).2.1, Dq n := by
  unfold res15
  cases hf : T.find? (fun x => isN q x.n) with
  | none => exact ⟨by simp, fun n hn => (List.not_mem_nil hn).elim⟩
  | some e => exact (hT e (List.mem_of_find?_eq_some hf)).2
theorem all_snoc16 {l : List Nd} {k : Nat} {x : Nd} (f : Nd → Bool) (h : l[k]? = some x) : (l.take (k + 1)).all f = ((l.take k).all f && f x) := by
  rw [take_snoc15 h, List.all_append]
  simp

set_option maxRecDepth 1000000 in
set_option maxHeartbeats 8000000 in
theorem closed_law (w : World) (vb : Value) (xs : List Int) (hs : Sl w vb (bs xs)) (hby : Byt xs) (hx : xs.length ≤ maxLen)
    (iC : ∀ W v u T s, Below w.heap.size w W → Se W v T → Sd W u s → T.length ≤ 8 → (∀ x ∈ T, Dy x) → s.length ≤ 60 → (∀ n ∈ s, Dq n) → Calls Try.prog 11 #[v, u] W fun e w' => e = .returned (.bool (closed16 T s)) ∧ Below W.heap.size W w')
    (iF : ∀ W v T q, Below w.heap.size w W → Se W v T → T.length ≤ 8 → (∀ x ∈ T, Dy x) → Dq q → Calls Try.prog 13 #[v, .string q.path, .agg #[.int .i64 q.a, .int .i64 q.b, .int .i64 q.c, .string q.pre]] W fun e w' => ∃ u', e = .returned (.tuple #[.agg #[.string (res15 q T).1.path, .int .i64 (res15 q T).1.a, .int .i64 (res15 q T).1.b, .int .i64 (res15 q T).1.c, .string (res15 q T).1.pre, u'], .bool (res15 q T).2.2]) ∧ Od w' W.heap.size w'.heap.size u' (res15 q T).2.1 ∧ Below W.heap.size W w')
    (iK : ∀ W v u s t, Below w.heap.size w W → Sd W v s → Sd W u t → s.length ≤ 60 → (∀ n ∈ s, Dq n) → t.length ≤ 60 → (∀ n ∈ t, Dq n) → Calls Try.prog 7 #[v, u] W fun e w' => e = .returned (.bool (covers16 s t)) ∧ Below W.heap.size W w') :
    Calls Try.prog 4 #[vb] w fun e w' => e = .returned (.bool true) ∧ Below w.heap.size w w' := by
  have HSL : Hid (Sl w vb (bs xs)) := hs
  unfold maxLen at hx
  obtain ⟨ao0, cap0, rfl, hc0⟩ := hs.form
  rw [bs_len] at *
  clear hs
  by_cases hbig : 1048576 < xs.length
  · go_enter Try.func4, Try.ntmps4
    go_wp2_with (go_at_call 5; refine (big_yes _ _ _ _ hbig).mono ?_; rintro e w1 ⟨rfl, rfl⟩)
    go_ret
    exact ⟨rfl, Below.refl _ _⟩
  have qd := drawClosed_any w _ xs HSL.out hby (by omega)
  go_enter Try.func4, Try.ntmps4
  go_wp2_with fail
  refine (big_no _ _ _ _ hbig).mono ?_
  rintro e w_ ⟨rfl, hw_⟩
  subst hw_
  go_wp2_with fail
  refine qd.mono ?_
  rintro e W1 ⟨v1, v2, T, s, rfl, hT1, hT8, hDX, hs60, hsq, hse, hsd, b1⟩
  have HT := Ke.h hDX
  have HQ := Ke.h hsq
  have HSE : Hid (Se W1 v1 T) := hse
  have HSD : Hid (Sd W1 v2 s) := hsd
  have B1 : Hid (Below w.heap.size w W1) := b1
  obtain ⟨ao1, cap1, rfl, hcap1⟩ := hse.form
  obtain ⟨_, ao2, cap2, rfl, hcap2, _, _⟩ := hsd
  clear hDX hsq hse b1 qd
  obtain ⟨C, hC⟩ : ∃ C, closed16 T s = C := ⟨_, rfl⟩
  have nc : (C != C) = false := by simp
  have q1 := iC W1 _ _ T s B1.out HSE.out HSD.out hT8 HT.out hs60 HQ.out
  rw [hC] at q1
  go_wp2_with fail
  refine q1.mono ?_
  rintro e W2 ⟨rfl, b2⟩
  clear q1
  have D2 : Hid (Below W1.heap.size W1 W2) := b2
  have q2 := closed_spec W2 _ _ T s (HSE.out.later D2.out) (HSD.out.later D2.out) (by omega) (by omega) (fun e he => by obtain ⟨h1, h2, h3⟩ := HT.out e he; exact ⟨by omega, fun x hx => by have := Dn.size (h3 x hx); omega⟩) (fun x hx => by have := Dn.size (HQ.out x hx); omega)
  rw [hC] at q2
  go_wp2_with fail
  refine q2.mono ?_
  rintro e W3 ⟨rfl, b3⟩
  clear q2 iC
  have D3 : Hid (Below W1.heap.size W1 W3) := D2.out.trans (b3.mono D2.out.size)
  clear b2 b3
  have HC := Ke.h hC
  clear hC
  go_wp2_with fail
  go_loopw [6, 7] (fun bv iv wr => ∃ (k : Nat) (B : Bool), k ≤ s.length ∧ iv = .int .i64 (k : Int) ∧ bv = .bool B ∧ Hid ((s.take k).all (shut1 T s) = B) ∧ Hid (Below W1.heap.size W1 wr)) (fun _ iv _ => s.length - (intOf iv).toNat)
  case atStart => exact ⟨0, true, Nat.zero_le _, rfl, rfl, (by show _ = _; simp), D3⟩
  case round =>
    obtain ⟨k, B, hk, rfl, rfl, HB, D4⟩ := hrel
    obtain ⟨W4, hW4⟩ : ∃ X, X = wr := ⟨_, rfl⟩
    subst hW4
    clear D2 D3
    have B4 : Hid (Below w.heap.size w W4) := B1.out.trans (D4.out.mono B1.out.size)
    by_cases hlt : k < s.length
    · have hlt2 : (k : Int) < (s.length : Int) := by omega
      obtain ⟨q, hq⟩ : ∃ q, s[k]? = some q := ⟨s[k], by simp [hlt]⟩
      obtain ⟨b, off, cap9, he, _, m0, m1, m2, m3, m4⟩ := Sd.at (HSD.out.later D4.out) hq
      simp only [Value.slice.injEq] at he
      obtain ⟨rfl, _, rfl⟩ := he
      have HX := Ke.h hq
      have hdq := HQ.out q (List.mem_of_getElem? hq)
      clear hq
      have hsh := shut_res T s q
      obtain ⟨hr3, hrd⟩ := res_dy HT.out q
      have q3 : ∀ W, Below W1.heap.size W1 W → _ := fun W hW => iF W (.slice ao1 T.length cap1) T q (B1.out.trans (hW.mono B1.out.size)) (HSE.out.later hW) hT8 HT.out hdq
      obtain ⟨R, t, ok, hR⟩ : ∃ R t ok, res15 q T = (R, t, ok) := ⟨_, _, _, rfl⟩
      simp only [hR] at q3 hsh hr3 hrd
      have HSH := Ke.h hsh
      have HRD := Ke.h hrd
      clear hR hsh hrd
      go_upto_region 11 with fail
      go_cut [8, 9] (fun s8 s9 wx => ∃ g : Nat, s8 = .pointer (some ⟨g, 0, none⟩) ∧ s9 = .bool ok ∧ W4.heap.size ≤ g ∧ g < wx.heap.size ∧ Below W4.heap.size W4 wx ∧ ∃ (lo hi : Nat) (ao : Option Addr) (L cap : Nat), W4.heap.size ≤ lo ∧ lo ≤ hi ∧ hi ≤ wx.heap.size ∧ Od wx lo hi (.slice ao L cap) t ∧ (g < lo ∨ hi ≤ g) ∧ wx.heap[g]? = some (.cells #[.string R.path, .int .i64 R.a, .int .i64 R.b, .int .i64 R.c, .string R.pre, .slice ao L cap] 38 (0, 0)))
      case first =>
        refine wp_region_held_drew (S := fun w' => w'.cell? ⟨b, off + k * 5, none⟩ = some (.string q.path) ∧ w'.cell? ⟨b, off + k * 5 + 1, none⟩ = some (.int .i64 q.a) ∧ w'.cell? ⟨b, off + k * 5 + 2, none⟩ = some (.int .i64 q.b) ∧ w'.cell? ⟨b, off + k * 5 + 3, none⟩ = some (.int .i64 q.c) ∧ w'.cell? ⟨b, off + k * 5 + 4, none⟩ = some (.string q.pre)) (by kernel_rfl) ⟨m0, m1, m2, m3, m4⟩ (fun hHeld => ?_)
        refine Ke.y 0 rfl (fun _ _ _ h => h) ?_
        try simp only [Act.put, pu1, pu2, pu3, pu4, pu5, pu6]
        refine Ke.y 1 rfl (fun _ _ _ h => h) ?_
        try simp only [Act.put, pu1, pu2, pu3, pu4, pu5, pu6]
        refine Ke.y 2 rfl (fun _ _ _ h => h) ?_
        try simp only [Act.put, pu1, pu2, pu3, pu4, pu5, pu6]
        refine Ke.y 3 rfl (fun _ _ _ h => h) ?_
        try simp only [Act.put, pu1, pu2, pu3, pu4, pu5, pu6]
        refine Ke.y 4 rfl (fun _ _ _ h => h) ?_
        try simp only [Act.put, pu1, pu2, pu3, pu4, pu5, pu6]
        refine Ke.y 5 rfl (fun _ _ _ h => h) ?_
        try simp only [Act.put, pu1, pu2, pu3, pu4, pu5, pu6]
        refine Ke.y 6 rfl (fun _ _ _ h => h) ?_
        try simp only [Act.put, pu1, pu2, pu3, pu4, pu5, pu6]
        refine Ke.y 7 rfl (fun _ _ _ h => h) ?_
        try simp only [Act.put, pu1, pu2, pu3, pu4, pu5, pu6]
        refine Ke.y 8 rfl (fun _ _ _ h => h) ?_
        try simp only [Act.put, pu1, pu2, pu3, pu4, pu5, pu6]
        refine Ke.y 9 rfl (fun _ _ _ h => h) ?_
        try simp only [Act.put, pu1, pu2, pu3, pu4, pu5, pu6]
        refine Ke.y 10 rfl (fun _ _ _ h => h) ?_
        try simp only [Act.put, pu1, pu2, pu3, pu4, pu5, pu6]
        obtain ⟨Wd, HWd, bd⟩ : ∃ X, Hid (W4.drew = X) ∧ Below W4.heap.size W4 X := ⟨_, rfl, Below.drew (Below.refl _ _)⟩
        have HHWd := HWd.out
        rw [HHWd] at hHeld ⊢
        clear HHWd
        have zd := bd.size
        have hbw : b < W4.heap.size := World.block_lt_of_cell? W4 _ m0
        refine wpAnyH_two (i := 11) (k := 15) (by kernel_rfl) ?wJ ?wK
        case wJ =>
          refine wpOp_weak rfl (fun K hK => ?_)
          go_simp
          refine (q3 Wd (D4.out.trans (bd.mono D4.out.size))).mono ?_
          rintro e W5 ⟨u2, rfl, o2, b2⟩
          obtain ⟨ao, L, cap, rfl⟩ : ∃ ao L cap, u2 = .slice ao L cap := by obtain ⟨ao, cap, e9⟩ := Od.slice o2; exact ⟨ao, _, cap, e9⟩
          have z5 := b2.size
          have D5 : Below W4.heap.size W4 W5 := bd.trans (b2.mono bd.size)
          have od := o2
          refine hK.out _ _ ⟨(S5.keep (b := b) (o := off + k * 5) (x := q) hHeld b2), ?_⟩
          have hHeld := (S5.keep (b := b) (o := off + k * 5) (x := q) hHeld b2)
          unfold S5 at hHeld
          clear hK K
          try simp only [Act.put, pu1, pu2, pu3, pu4, pu5, pu6]
          refine Ke.y 12 rfl (fun _ _ _ h => h) ?_
          try simp only [Act.put, pu1, pu2, pu3, pu4, pu5, pu6]
          refine Ke.y 13 rfl (fun _ _ _ h => h) ?_
          try simp only [Act.put, pu1, pu2, pu3, pu4, pu5, pu6]
          refine Ke.y 14 rfl (fun _ _ _ h => h) ?_
          try simp only [Act.put, pu1, pu2, pu3, pu4, pu5, pu6]
          refine Ke.z 15 rfl (fun K hK => ?_)
          go_simp
          obtain ⟨W6, HW6, b6, y6, hS6, rr⟩ := Ke.l1 W5 #[.string ⟨#[]⟩, .int .i64 0, .int .i64 0, .int .i64 0, .string ⟨#[]⟩, .slice none 0 0] 38
          refine hK.out _ _ (S5.keep (b := b) (o := off + k * 5) (x := q) hHeld ((Below.refl _ _).alloc (Nat.le_refl _) _)) (fun hHeld => ?_)
          clear hK K
          try simp only [Act.put, pu1, pu2, pu3, pu4, pu5, pu6]
          have HHW := HW6.out
          rw [HHW] at hHeld ⊢
          clear HHW
          have od : Od W6 Wd.heap.size W5.heap.size (.slice ao L cap) t := Od.later od b6 (by omega)
          have D6 : Below W4.heap.size W4 W6 := D5.trans (b6.mono D5.size)
          have zz : W5.heap.size ≤ W6.heap.size := b6.size
          have hg3 := rr.out
          refine Ke.z 16 rfl (fun K hK => ?_)
          rw [if_pos (by rfl)]
          refine wp_partG 38 _ _ rfl (W5.heap.size) 0 (ec R (.slice ao L cap)) rfl rfl [.string ⟨#[]⟩, .int .i64 0, .int .i64 0, .int .i64 0, .string ⟨#[]⟩, .slice none 0 0] 38 hg3 (Nat.le_of_ble_eq_true rfl) (sizeE _ _) (oneE _ rfl) [.string R.path, .int .i64 R.a, .int .i64 R.b, .int .i64 R.c, .string R.pre, .slice ao L cap] rfl ?_
          intro WZ rz gz
          refine hK.out _ _ ⟨cellGro hHeld.1 gz (by intro h9; injection h9 with h9; first | (replace h9 : (W5.heap.size) = b := h9; omega) | (replace h9 : b = (W5.heap.size) := h9; omega)), cellGro hHeld.2.1 gz (by intro h9; injection h9 with h9; first | (replace h9 : (W5.heap.size) = b := h9; omega) | (replace h9 : b = (W5.heap.size) := h9; omega)), cellGro hHeld.2.2.1 gz (by intro h9; injection h9 with h9; first | (replace h9 : (W5.heap.size) = b := h9; omega) | (replace h9 : b = (W5.heap.size) := h9; omega)), cellGro hHeld.2.2.2.1 gz (by intro h9; injection h9 with h9; first | (replace h9 : (W5.heap.size) = b := h9; omega) | (replace h9 : b = (W5.heap.size) := h9; omega)), cellGro hHeld.2.2.2.2 gz (by intro h9; injection h9 with h9; first | (replace h9 : (W5.heap.size) = b := h9; omega) | (replace h9 : b = (W5.heap.size) := h9; omega))⟩ (fun hHeld => ?_)
          clear hK K
          try simp only [Act.put, pu1, pu2, pu3, pu4, pu5, pu6]
          have hzz := gz.size
          have oz := Od.gro9 od gz (fun k9 h9 => by injection h9 with h9; omega)
          have Dz : Below W4.heap.size W4 WZ := belowGro D6 gz D6.size (fun k9 h9 => by injection h9 with h9; omega)
          refine Ke.y 17 rfl (fun _ _ _ h => h) ?_
          try simp only [Act.put, pu1, pu2, pu3, pu4, pu5, pu6]
          refine wpAnyH_done (by kernel_rfl) ?_ _
          clear hHeld
          go_wp2_with fail
          go_meet
          exact ⟨W5.heap.size, rfl, rfl, by omega, (Array.getElem?_eq_some_iff.1 rz).1, Dz, Wd.heap.size, W5.heap.size, ao, L, cap, by omega, by omega, by omega, oz, by omega, rz⟩
        case wK =>
          refine wpOp_weak rfl (fun K hK => ?_)
          go_simp
          obtain ⟨Wa, HWa, ba, ya, hSa, ra⟩ := Ke.l1 Wd #[.string ⟨#[]⟩, .int .i64 0, .int .i64 0, .int .i64 0, .string ⟨#[]⟩, .slice none 0 0] 38
          refine hK.out _ _ ⟨(S5.keep (b := b) (o := off + k * 5) (x := q) hHeld ((Below.refl _ _).alloc (Nat.le_refl _) _)), ?_⟩
          have hHeld := (S5.keep (b := b) (o := off + k * 5) (x := q) hHeld ((Below.refl _ _).alloc (Nat.le_refl _) (.cells #[.string ⟨#[]⟩, .int .i64 0, .int .i64 0, .int .i64 0, .string ⟨#[]⟩, .slice none 0 0] 38)))
          unfold S5 at hHeld
          clear hK K
          try simp only [Act.put, pu1, pu2, pu3, pu4, pu5, pu6]
          have HHW := HWa.out
          rw [HHW] at hHeld ⊢
          clear HHW
          have za := ba.size
          have Da : Below W4.heap.size W4 Wa := bd.trans (ba.mono bd.size)
          refine Ke.z 11 rfl (fun K hK => ?_)
          go_simp
          refine (q3 Wa (D4.out.trans (Da.mono D4.out.size))).mono ?_
          rintro e W5 ⟨u2, rfl, o2, b2⟩
          obtain ⟨ao, L, cap, rfl⟩ : ∃ ao L cap, u2 = .slice ao L cap := by obtain ⟨ao, cap, e9⟩ := Od.slice o2; exact ⟨ao, _, cap, e9⟩
          have z5 := b2.size
          have D5 : Below W4.heap.size W4 W5 := Da.trans (b2.mono Da.size)
          have od := o2
          have hg3 := (Ke.r ra b2).out
          refine hK.out _ _ (S5.keep (b := b) (o := off + k * 5) (x := q) hHeld b2) (fun hHeld => ?_)
          clear hK K
          try simp only [Act.put, pu1, pu2, pu3, pu4, pu5, pu6]
          refine Ke.y 12 rfl (fun _ _ _ h => h) ?_
          try simp only [Act.put, pu1, pu2, pu3, pu4, pu5, pu6]
          refine Ke.y 13 rfl (fun _ _ _ h => h) ?_
          try simp only [Act.put, pu1, pu2, pu3, pu4, pu5, pu6]
          refine Ke.y 14 rfl (fun _ _ _ h => h) ?_
          try simp only [Act.put, pu1, pu2, pu3, pu4, pu5, pu6]
          refine Ke.z 16 rfl (fun K hK => ?_)
          rw [if_pos (by rfl)]
          refine wp_partG 38 _ _ rfl (Wd.heap.size) 0 (ec R (.slice ao L cap)) rfl rfl [.string ⟨#[]⟩, .int .i64 0, .int .i64 0, .int .i64 0, .string ⟨#[]⟩, .slice none 0 0] 38 hg3 (Nat.le_of_ble_eq_true rfl) (sizeE _ _) (oneE _ rfl) [.string R.path, .int .i64 R.a, .int .i64 R.b, .int .i64 R.c, .string R.pre, .slice ao L cap] rfl ?_
          intro WZ rz gz
          refine hK.out _ _ ⟨cellGro hHeld.1 gz (by intro h9; injection h9 with h9; first | (replace h9 : (Wd.heap.size) = b := h9; omega) | (replace h9 : b = (Wd.heap.size) := h9; omega)), cellGro hHeld.2.1 gz (by intro h9; injection h9 with h9; first | (replace h9 : (Wd.heap.size) = b := h9; omega) | (replace h9 : b = (Wd.heap.size) := h9; omega)), cellGro hHeld.2.2.1 gz (by intro h9; injection h9 with h9; first | (replace h9 : (Wd.heap.size) = b := h9; omega) | (replace h9 : b = (Wd.heap.size) := h9; omega)), cellGro hHeld.2.2.2.1 gz (by intro h9; injection h9 with h9; first | (replace h9 : (Wd.heap.size) = b := h9; omega) | (replace h9 : b = (Wd.heap.size) := h9; omega)), cellGro hHeld.2.2.2.2 gz (by intro h9; injection h9 with h9; first | (replace h9 : (Wd.heap.size) = b := h9; omega) | (replace h9 : b = (Wd.heap.size) := h9; omega))⟩ (fun hHeld => ?_)
          clear hK K
          try simp only [Act.put, pu1, pu2, pu3, pu4, pu5, pu6]
          have hzz := gz.size
          have oz := Od.gro9 od gz (fun k9 h9 => by injection h9 with h9; omega)
          have Dz : Below W4.heap.size W4 WZ := belowGro D5 gz D5.size (fun k9 h9 => by injection h9 with h9; omega)
          refine Ke.y 17 rfl (fun _ _ _ h => h) ?_
          try simp only [Act.put, pu1, pu2, pu3, pu4, pu5, pu6]
          refine wpAnyH_done (by kernel_rfl) ?_ _
          clear hHeld
          go_wp2_with fail
          go_meet
          exact ⟨Wd.heap.size, rfl, rfl, by omega, (Array.getElem?_eq_some_iff.1 rz).1, Dz, Wa.heap.size, W5.heap.size, ao, L, cap, by omega, by omega, by omega, oz, by omega, rz⟩
      case rest =>
      obtain ⟨g5, rfl, rfl, hg1, hg2, b5, lo, hi, ao5, L5, cap5, d1, d2, d3, od, hgf, rr⟩ := hcut
      revert hg2 b5 d3 od rr
      generalize wc = W5
      intro hg2 b5 d3 od rr
      have D5 : Hid (Below W1.heap.size W1 W5) := D4.out.trans (b5.mono D4.out.size)
      have B5 : Hid (Below w.heap.size w W5) := B1.out.trans (D5.out.mono B1.out.size)
      have r_e := Ke.h rr
      have c_e := Ke.c r_e
      have HO : Hid (Sd W5 (.slice ao5 L5 cap5) t) := od.sd
      clear rr od m0 m1 m2 m3 m4 q3 D4 b5
      have HB2 : Hid ((s.take (k + 1)).all (shut1 T s) = (B && (ok && covers16 s t))) := by show _ = _; rw [all_snoc16 _ HX.out, HB.out, HSH.out]
      cases B
      · clear c_e
        go_wp2
        go_roundw
        case rel => exact ⟨k + 1, false, by omega, by go_num, rfl, (by show _ = _; rw [HB2.out]; first | rfl | simp), D5⟩
        case measure => simp [intOf]; omega
      cases ok
      · clear c_e
        go_wp2
        go_roundw
        case rel => exact ⟨k + 1, false, by omega, by go_num, rfl, (by show _ = _; rw [HB2.out]; first | rfl | simp), D5⟩
        case measure => simp [intOf]; omega
      obtain ⟨V, hV⟩ : ∃ V, covers16 s t = V := ⟨_, rfl⟩
      have q4 := iK W5 _ _ s t B5.out (HSD.out.later D5.out) HO.out hs60 HQ.out (by omega) HRD.out
      rw [hV] at q4 HB2
      go_wp2_with fail
      refine q4.mono ?_
      rintro e W6 ⟨rfl, b6⟩
      have D6 : Hid (Below W1.heap.size W1 W6) := D5.out.trans (b6.mono D5.out.size)
      clear q4 c_e b6
      go_wp2
      go_roundw
      case rel => exact ⟨k + 1, V, by omega, by go_num, rfl, (by show _ = _; rw [HB2.out]; first | rfl | simp), D6⟩
      case measure => simp [intOf]; omega
    · have hlt2 : ¬ (k : Int) < (s.length : Int) := by omega
      have hBC : B = C := by have h9 := HB.out; rw [show k = s.length by omega, List.take_length] at h9; rw [← h9]; exact HC.out
      subst hBC
      have ce : (B == B) = true := by simp
      go_wp2
      go_ret
      exact ⟨by first | rfl | simp, B4.out⟩

end Go.Proofs.Ytlhmemnaiobgkaa.Se
