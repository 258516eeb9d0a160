/- Texts in one: Fg6, Sha2, Sha3. -/
import Derived.Test.YtpfiaginonnjmaaPk18
import Derived.Test.YtpfiaginonnjmaaPk19
import Derived.Test.YtpfiaginonnjmaaPk7
import Derived.Deep.DeepCutAuto
/- Chapter 15: the exact law of FindEntry, over a contract of the landed function. -/
namespace Go.Proofs.Ytpfiaginonnjmaa.Fe
open Go.RowKit Go.Proofs.Ytpfiaginonnjmaa.Mem Go.Proofs.Ytpfiaginonnjmaa.Laws Go.Proofs.Ytpfiaginonnjmaa.Ver Go.Proofs.Ytpfiaginonnjmaa.Ent Go.Proofs.Ytpfiaginonnjmaa.Strs
set_option linter.unusedVariables false
set_option linter.unusedSimpArgs false

theorem Od.gro9 {w w' : World} {lo hi g : Nat} {v : Value} {l : List Nd} (h : Od w lo hi v l) (gr : w.grownBy w' (some g)) (hr : ∀ k, some g = some k → k < lo ∨ hi ≤ k) : Od w' lo hi v l :=
  On.keep1 h (fun j hj => gr.block j (On.lt h hj).2.2 (fun e9 => by have h1 := On.lt h hj; have h2 := hr j (by rw [← e9]); omega))
theorem Oes.gro9 {w w' : World} {lo hi g : Nat} {v : Value} {T : List Ev} (h : Oes w lo hi v T) (gr : w.grownBy w' (some g)) (hr : ∀ k, some g = some k → k < lo ∨ hi ≤ k) : Oes w' lo hi v T :=
  ⟨On.keep1 h.1 (fun j hj => gr.block j (On.lt h.1 hj).2.2 (fun e9 => by have h1 := On.lt h.1 hj; have h2 := hr j (by rw [← e9]); omega)),
   h.2.keep fun x hx j hj => gr.block j (On.lt (h.2.1 x hx) hj).2.2 (fun e9 => by have h1 := On.lt (h.2.1 x hx) hj; have h2 := hr j (by rw [← e9]); omega)⟩
theorem res_alk {q : Nd} : ∀ {l T : List Ev}, Alk l T → res15 q T = res15 q l := by
  intro l
  induction l with
  | nil =>
    intro T h
    have : T = [] := List.eq_nil_of_length_eq_zero (by have := h.len; simpa using this)
    subst this
    rfl
  | cons x r ih =>
    intro T h
    cases T with
    | nil => have := h.len; simp at this
    | cons y s =>
      have h9 : key15 y :: s.map key15 = key15 x :: r.map key15 := h
      obtain ⟨h1, h2⟩ := List.cons.inj h9
      simp only [key15, Prod.mk.injEq] at h1
      have h3 := ih (T := s) h2
      unfold res15 at h3 ⊢
      rw [List.find?_cons, List.find?_cons, h1.1]
      cases isN q x.n with
      | true => simp only [h1.1, h1.2]
      | false => exact h3
theorem res_len (q : Nd) : ∀ (l : List Ev) (B : Nat), (∀ x ∈ l, x.l.length ≤ B) → (res15 q l).2.1.length ≤ B := by
  intro l B h
  unfold res15
  cases hf : l.find? (fun x => isN q x.n) with
  | none => exact Nat.zero_le _
  | some x => exact h x (List.mem_of_find?_eq_some hf)

set_option maxRecDepth 1000000 in
set_option maxHeartbeats 4000000 in
theorem exact_find (w : World) (v : Value) (l : List Ev) (q : Nd) (h : Se w v l) (y : ∀ x ∈ l, Oke x) (hm : l.length ≤ maxLen) (hp : q.path.size ≤ maxLen ∧ q.pre.size ≤ maxLen)
    (iF : ∀ W v' T, Below w.heap.size w W → Se W v' T → T.length ≤ 1048576 → (∀ x ∈ T, Fit2 x) → q.path.size ≤ 1048576 → q.pre.size ≤ 1048576 → Calls Try.prog 9 #[v', .string q.path, .agg #[.int .i64 q.a, .int .i64 q.b, .int .i64 q.c, .string q.pre]] W fun e w' => ∃ u', e = .returned (.tuple #[.agg #[.string (res15 q T).1.path, .int .i64 (res15 q T).1.a, .int .i64 (res15 q T).1.b, .int .i64 (res15 q T).1.c, .string (res15 q T).1.pre, u'], .bool (res15 q T).2.2]) ∧ Od w' W.heap.size w'.heap.size u' (res15 q T).2.1 ∧ Below W.heap.size W w') :
    Calls Try.prog 4 #[v, .string q.path, .agg #[.int .i64 q.a, .int .i64 q.b, .int .i64 q.c, .string q.pre]] w fun e w' => e = .returned (.bool true) ∧ Below w.heap.size w w' := by
  unfold maxLen at hm hp
  by_cases hbig : 1048576 < q.path.size
  · have hb : (1048576 : Int) < (q.path.size : Int) := by omega
    clear hbig iF
    go_enter Try.func4, Try.ntmps4
    go_wp2
    go_ret
    exact ⟨rfl, (Below.refl _ _).alloc (Nat.le_refl _) _⟩
  have hb : ¬ (1048576 : Int) < (q.path.size : Int) := by omega
  have HS : Hid (Se w v l) := h
  obtain ⟨W1, HW1, b1, y1, hS1, a_1⟩ := Ke.l1 w #[.int .i64 q.a, .int .i64 q.b, .int .i64 q.c, .string q.pre] 40
  have z1 := b1.size
  have B1 : Hid (Below w.heap.size w W1) := b1
  have c_a_1 := Ke.c a_1
  have q0 := sz_entries W1 v l 1048576 (HS.out.later b1) (fun x hx => (y x hx).big) (by omega) (by omega)
  clear h hbig y b1
  go_enter Try.func4, Try.ntmps4
  go_wp2_with fail
  rw [HW1.out]
  refine (q0).mono ?_
  rintro e W2 ⟨⟨r, rfl, hr, hor⟩, b2⟩
  have z2 := b2.size
  have B2 : Hid (Below w.heap.size w W2) := B1.out.trans (b2.mono B1.out.size)
  have a_2 : Hid (W2.heap[w.heap.size]? = some (.cells #[.int .i64 q.a, .int .i64 q.b, .int .i64 q.c, .string q.pre] 40 (0, 0))) := rowKeep a_1.out b2
  clear b2 B1 a_1 c_a_1
  have c_a_2 := Ke.c a_2
  rcases hor with hr0 | ⟨hr0, ht, hf⟩
  · go_wp2
    go_ret
    exact ⟨rfl, B2.out⟩
  have hr1 : ¬ r < 0 := by omega
  have htl := tot15_len l
  have hl : l.length ≤ 1048576 := by omega
  have HN : Hid (∀ x ∈ l, x.l.length ≤ 1048576) := fun x hx => by have := tot15_mem hx; omega
  have HF : Hid (∀ x ∈ l, Fit2 x) := fun x hx => ⟨hf x hx, HN.out x hx⟩
  have htt : tot15 l ≤ 1048576 := by omega
  clear hf q0
  have q0 : ∀ W, _ := fun W => Ver.sz_any W q.a q.b q.c q.pre r (by omega) (by omega) (by omega)
  unfold Ver.ver at q0
  by_cases hs : r - (q.pre.size : Int) < 0
  · simp only [if_pos hs] at q0
    go_wp2_with fail
    refine (q0 _).mono ?_
    rintro e W3 ⟨rfl, b3⟩
    have B3 : Below w.heap.size w W3 := B2.out.trans (b3.mono B2.out.size)
    go_wp2
    go_ret
    exact ⟨rfl, B3⟩
  simp only [if_neg hs] at q0
  have hpre : q.pre.size ≤ 1048576 := by omega
  go_wp2_with fail
  refine (q0 W2).mono ?_
  rintro e W3 ⟨rfl, b3⟩
  have z3 := b3.size
  have B3 : Hid (Below w.heap.size w W3) := B2.out.trans (b3.mono B2.out.size)
  have a_3 : Hid (W3.heap[w.heap.size]? = some (.cells #[.int .i64 q.a, .int .i64 q.b, .int .i64 q.c, .string q.pre] 40 (0, 0))) := rowKeep a_2.out b3
  clear b3 B2 a_2 c_a_2
  have c_a_3 := Ke.c a_3
  clear q0
  obtain ⟨R, s, ok, hR⟩ : ∃ R s ok, res15 q l = (R, s, ok) := ⟨_, _, _, rfl⟩
  have hsl := res_len q l 1048576 HN.out
  have HR : Hid (res15 q l = (R, s, ok)) := hR
  rw [hR] at hsl
  simp only at hsl
  clear hR
  have nc : (ok != ok) = false := by simp
  have qv : ∀ W, _ := fun W => to_ver W q.a q.b q.c q.pre
  unfold Ver.ver at qv
  have q1 : ∀ W v1 T, Hid (Alk l T) → Se W v1 T → Calls Try.prog 10 #[v1, .string q.path, .agg #[.int .i64 q.a, .int .i64 q.b, .int .i64 q.c, .string q.pre]] W fun e w' => ∃ u', e = .returned (.tuple #[.agg #[.string R.path, .int .i64 R.a, .int .i64 R.b, .int .i64 R.c, .string R.pre, u'], .bool ok]) ∧ Od w' W.heap.size w'.heap.size u' s ∧ Below W.heap.size W w' := by
    intro W v1 T hA hS
    have hT := hA.out.len
    have h9 := find_spec W v1 T q hS (by omega) (Alk.all (p := fun _ s => s.length ≤ 1000000000) hA.out (fun x hx => by have := HN.out x hx; omega))
    rw [res_alk hA.out, HR.out] at h9
    exact h9
  have q2 : ∀ W v1 T, Below w.heap.size w W → Hid (Alk l T) → Se W v1 T → Calls Try.prog 9 #[v1, .string q.path, .agg #[.int .i64 q.a, .int .i64 q.b, .int .i64 q.c, .string q.pre]] W fun e w' => ∃ u', e = .returned (.tuple #[.agg #[.string R.path, .int .i64 R.a, .int .i64 R.b, .int .i64 R.c, .string R.pre, u'], .bool ok]) ∧ Od w' W.heap.size w'.heap.size u' s ∧ Below W.heap.size W w' := by
    intro W v1 T hB hA hS
    have hT := hA.out.len
    have h9 := iF W v1 T hB hS (by omega) (Fit2.alk HF.out hA.out) (by omega) hpre
    rw [res_alk hA.out, HR.out] at h9
    exact h9
  clear iF
  go_upto_region 10 with fail
  go_cut [8, 9] (fun s8 s9 wx => ∃ g : Nat, s8 = .pointer (some ⟨g, 0, none⟩) ∧ s9 = .bool ok ∧ W3.heap.size ≤ g ∧ g < wx.heap.size ∧ Below W3.heap.size W3 wx ∧ ∃ (lo hi : Nat) (ao : Option Addr) (L cap : Nat), W3.heap.size ≤ lo ∧ lo ≤ hi ∧ hi ≤ wx.heap.size ∧ Od wx lo hi (.slice ao L cap) s ∧ (g < lo ∨ hi ≤ g) ∧ wx.heap[g]? = some (.cells #[.string R.path, .int .i64 R.a, .int .i64 R.b, .int .i64 R.c, .string R.pre, .slice ao L cap] 31 (0, 0)))
  case first =>
    have D3 : Hid (Below W3.heap.size W3 W3) := Below.refl _ _
    refine wp_region_held_drew (S := fun w' => ∀ j, w'.cell? ⟨w.heap.size, j, none⟩ = #[.int .i64 q.a, .int .i64 q.b, .int .i64 q.c, .string q.pre][j]?) (by kernel_rfl) c_a_3 (fun hHeld => ?_)
    refine Ke.y 0 rfl (fun _ _ _ h => h) ?_
    try simp only [Act.put, pu1, pu2, pu3, pu4, pu5, pu6]
    refine Ke.y 2 rfl (fun _ _ _ h => h) ?_
    try simp only [Act.put, pu1, pu2, pu3, pu4, pu5, pu6]
    refine Ke.y 3 rfl (fun _ _ _ h => h) ?_
    try simp only [Act.put, pu1, pu2, pu3, pu4, pu5, pu6]
    refine chain3 1 4 5 9 (fun aA xA aB wB => aB = aA.put (some 8) xA ∧ Below W3.heap.size W3 wB ∧ (∀ g : Nat, xA = .pointer (some ⟨g, 0, none⟩) → W3.heap.size ≤ g ∧ g < wB.heap.size ∧ wB.heap[g]? = some (.cells #[.string ⟨#[]⟩, .int .i64 0, .int .i64 0, .int .i64 0, .string ⟨#[]⟩, .slice none 0 0] 31 (0, 0)))) (fun aA xA aB wB => ∃ (v1 : Value) (T1 : List Ev), aB = (aA.put (some 33) v1).put (some 8) xA ∧ Below W3.heap.size W3 wB ∧ Hid (Alk l T1) ∧ Se wB v1 T1 ∧ (∀ g : Nat, xA = .pointer (some ⟨g, 0, none⟩) → W3.heap.size ≤ g ∧ g < wB.heap.size ∧ wB.heap[g]? = some (.cells #[.string ⟨#[]⟩, .int .i64 0, .int .i64 0, .int .i64 0, .string ⟨#[]⟩, .slice none 0 0] 31 (0, 0)))) (fun aA xA aB wB => ∃ (v1 : Value) (T1 : List Ev), aB = ((aA.put (some 33) v1).put (some 36) (.agg #[.int .i64 q.a, .int .i64 q.b, .int .i64 q.c, .string q.pre])).put (some 8) xA ∧ Below W3.heap.size W3 wB ∧ Hid (Alk l T1) ∧ Se wB v1 T1 ∧ (∀ g : Nat, xA = .pointer (some ⟨g, 0, none⟩) → W3.heap.size ≤ g ∧ g < wB.heap.size ∧ wB.heap[g]? = some (.cells #[.string ⟨#[]⟩, .int .i64 0, .int .i64 0, .int .i64 0, .string ⟨#[]⟩, .slice none 0 0] 31 (0, 0)))) (fun aA xA aB wB => ∃ (v1 : Value) (T1 : List Ev) (lo hi : Nat) (ao : Option Addr) (L cap : Nat), aB = (((aA.put (some 33) v1).put (some 36) (.agg #[.int .i64 q.a, .int .i64 q.b, .int .i64 q.c, .string q.pre])).put (some 37) (.tuple #[.agg #[.string R.path, .int .i64 R.a, .int .i64 R.b, .int .i64 R.c, .string R.pre, .slice ao L cap], .bool ok])).put (some 8) xA ∧ Below W3.heap.size W3 wB ∧ W3.heap.size ≤ lo ∧ lo ≤ hi ∧ hi ≤ wB.heap.size ∧ Od wB lo hi (.slice ao L cap) s ∧ (∀ g : Nat, xA = .pointer (some ⟨g, 0, none⟩) → W3.heap.size ≤ g ∧ g < wB.heap.size ∧ wB.heap[g]? = some (.cells #[.string ⟨#[]⟩, .int .i64 0, .int .i64 0, .int .i64 0, .string ⟨#[]⟩, .slice none 0 0] 31 (0, 0)) ∧ (g < lo ∨ hi ≤ g))) (by decide) (by decide) (by decide) (by kernel_rfl) (by kernel_rfl) (by kernel_rfl) (by kernel_rfl) (by kernel_rfl) (by kernel_rfl) ?hC0x10 ?hC1x10 ?hC2x10 ?hA0x10 ?hA1x10 ?hA2x10 ?tJx10 ?tKx10 ?h0x10 hHeld
    case hC0x10 =>
      rintro xA a1 wq ⟨rfl, hD, hx⟩ hHeld
      have hBw : Below w.heap.size w wq := B3.out.trans (hD.mono B3.out.size)
      refine wpOp_weak rfl (fun K hK => ?_)
      try simp only [Act.put, pu1, pu2, pu3, pu4, pu5, pu6]
      go_simp
      refine (to_entries wq v l (Se.later HS.out hBw) (by omega) (fun x hx => by have := HN.out x hx; omega)).mono ?_
      rintro e w2 ⟨v1, T1, rfl, p1, p2, b2⟩
      refine hK.out _ _ ⟨(Ke.k hHeld b2), v1, T1, rfl, hD.trans (b2.mono hD.size), p2, p1.se, fun g hg => ?_⟩
      obtain ⟨g1, g2, g3⟩ := hx g hg
      exact ⟨g1, by have := b2.size; omega, rowKeep g3 b2⟩
    case hC1x10 =>
      rintro xA a1 wq ⟨v1, T1, rfl, hD, hA, hS, hx⟩ hHeld
      have hBw : Below w.heap.size w wq := B3.out.trans (hD.mono B3.out.size)
      refine wpOp_weak rfl (fun K hK => ?_)
      try simp only [Act.put, pu1, pu2, pu3, pu4, pu5, pu6]
      go_simp
      refine (qv wq).mono ?_
      rintro e w2 ⟨rfl, b2⟩
      refine hK.out _ _ ⟨(Ke.k hHeld b2), v1, T1, rfl, hD.trans (b2.mono hD.size), hA, hS.later b2, fun g hg => ?_⟩
      obtain ⟨g1, g2, g3⟩ := hx g hg
      exact ⟨g1, by have := b2.size; omega, rowKeep g3 b2⟩
    case hC2x10 =>
      rintro xA a1 wq ⟨v1, T1, rfl, hD, hA, hS, hx⟩ hHeld
      have hBw : Below w.heap.size w wq := B3.out.trans (hD.mono B3.out.size)
      refine wpOp_weak rfl (fun K hK => ?_)
      try simp only [Act.put, pu1, pu2, pu3, pu4, pu5, pu6]
      go_simp
      refine (q1 wq v1 T1 hA hS).mono ?_
      rintro e w2 ⟨u2, rfl, o2, b2⟩
      obtain ⟨ao, L, cap, rfl⟩ : ∃ ao L cap, u2 = .slice ao L cap := by obtain ⟨ao, cap, e9⟩ := Od.slice o2; exact ⟨ao, _, cap, e9⟩
      have hzq := b2.size
      have hzd := hD.size
      refine hK.out _ _ ⟨(Ke.k hHeld b2), v1, T1, wq.heap.size, w2.heap.size, ao, L, cap, rfl, hD.trans (b2.mono hD.size), by omega, by omega, Nat.le_refl _, o2, fun g hg => ?_⟩
      obtain ⟨g1, g2, g3⟩ := hx g hg
      exact ⟨g1, by omega, rowKeep g3 b2, by omega⟩
    case hA0x10 =>
      rintro a1 wq ⟨rfl, hD, hx⟩ hHeld
      refine wpOp_weak rfl (fun K hK => ?_)
      try simp only [Act.put, pu1, pu2, pu3, pu4, pu5, pu6]
      go_simp
      refine hK.out _ _ ⟨(Ke.k hHeld ((Below.refl _ _).alloc (Nat.le_refl _) _)), wq.heap.size, rfl, hD.alloc hD.size _, fun g hg => ?_⟩
      obtain rfl : wq.heap.size = g := by simpa using hg
      exact ⟨hD.size, by simp, heap_alloc_new wq _⟩
    case hA1x10 =>
      rintro a1 wq ⟨v1, T1, rfl, hD, hA, hS, hx⟩ hHeld
      refine wpOp_weak rfl (fun K hK => ?_)
      try simp only [Act.put, pu1, pu2, pu3, pu4, pu5, pu6]
      go_simp
      refine hK.out _ _ ⟨(Ke.k hHeld ((Below.refl _ _).alloc (Nat.le_refl _) _)), wq.heap.size, v1, T1, rfl, hD.alloc hD.size _, hA, hS.later ((Below.refl _ _).alloc (Nat.le_refl _) _), fun g hg => ?_⟩
      obtain rfl : wq.heap.size = g := by simpa using hg
      exact ⟨hD.size, by simp, heap_alloc_new wq _⟩
    case hA2x10 =>
      rintro a1 wq ⟨v1, T1, rfl, hD, hA, hS, hx⟩ hHeld
      refine wpOp_weak rfl (fun K hK => ?_)
      try simp only [Act.put, pu1, pu2, pu3, pu4, pu5, pu6]
      go_simp
      refine hK.out _ _ ⟨(Ke.k hHeld ((Below.refl _ _).alloc (Nat.le_refl _) _)), wq.heap.size, v1, T1, rfl, hD.alloc hD.size _, hA, hS.later ((Below.refl _ _).alloc (Nat.le_refl _) _), fun g hg => ?_⟩
      obtain rfl : wq.heap.size = g := by simpa using hg
      exact ⟨hD.size, by simp, heap_alloc_new wq _⟩
    case tJx10 =>
      rintro a1 W4 ⟨v1, T1, lo, hi, ao, L, cap, rfl, D4, d1, d2, d3, od, hx⟩ hHeld
      have z4 : W3.heap.size ≤ W4.heap.size := D4.size
      have B4 : Hid (Below w.heap.size w W4) := B3.out.trans (D4.mono B3.out.size)
      try simp only [Act.put, pu1, pu2, pu3, pu4, pu5, pu6]
      refine Ke.y 6 rfl (fun _ _ _ h => h) ?_
      try simp only [Act.put, pu1, pu2, pu3, pu4, pu5, pu6]
      refine Ke.y 7 rfl (fun _ _ _ h => h) ?_
      try simp only [Act.put, pu1, pu2, pu3, pu4, pu5, pu6]
      refine Ke.y 8 rfl (fun _ _ _ h => h) ?_
      try simp only [Act.put, pu1, pu2, pu3, pu4, pu5, pu6]
      refine Ke.z 9 rfl (fun K hK => ?_)
      go_simp
      obtain ⟨W5, HW5, b5, y5, hS5, rr⟩ := Ke.l1 W4 #[.string ⟨#[]⟩, .int .i64 0, .int .i64 0, .int .i64 0, .string ⟨#[]⟩, .slice none 0 0] 31
      refine hK.out _ _ (Ke.k hHeld ((Below.refl _ _).alloc (Nat.le_refl _) _)) (fun hHeld => ?_)
      clear hK K
      try simp only [Act.put, pu1, pu2, pu3, pu4, pu5, pu6]
      have HHW := HW5.out
      rw [HHW] at hHeld ⊢
      clear HHW
      have od : Od W5 lo hi (.slice ao L cap) s := Od.later od b5 (by omega)
      have D5 : Below W3.heap.size W3 W5 := D4.trans (b5.mono D4.size)
      have B5 : Hid (Below w.heap.size w W5) := B4.out.trans (b5.mono B4.out.size)
      have zz : W4.heap.size ≤ W5.heap.size := b5.size
      have hg3 := rr.out
      refine Ke.z 10 rfl (fun K hK => ?_)
      rw [if_pos (by rfl)]
      refine wp_partG 31 _ _ rfl (W4.heap.size) 0 (ec R (.slice ao L cap)) rfl rfl [.string ⟨#[]⟩, .int .i64 0, .int .i64 0, .int .i64 0, .string ⟨#[]⟩, .slice none 0 0] 31 hg3 (Nat.le_of_ble_eq_true rfl) (sizeE _ _) (oneE _ rfl) [.string R.path, .int .i64 R.a, .int .i64 R.b, .int .i64 R.c, .string R.pre, .slice ao L cap] rfl ?_
      intro WZ rz gz
      refine hK.out _ _ (Ke.g hHeld gz (by intro h9; injection h9 with h9; have := B3.out.size; omega)) (fun hHeld => ?_)
      clear hK K
      try simp only [Act.put, pu1, pu2, pu3, pu4, pu5, pu6]
      have hzz := gz.size
      have oz := Od.gro9 od gz (fun k9 h9 => by injection h9 with h9; omega)
      have Dz : Below W3.heap.size W3 WZ := belowGro D5 gz D5.size (fun k9 h9 => by injection h9 with h9; omega)
      refine Ke.y 11 rfl (fun _ _ _ h => h) ?_
      try simp only [Act.put, pu1, pu2, pu3, pu4, pu5, pu6]
      refine wpAnyH_done (by kernel_rfl) ?_ _
      clear hHeld
      go_wp2_with fail
      go_meet
      exact ⟨W4.heap.size, rfl, rfl, by omega, (Array.getElem?_eq_some_iff.1 rz).1, Dz, lo, hi, ao, L, cap, by omega, by omega, by omega, oz, by omega, rz⟩
    case tKx10 =>
      rintro g9 a1 W4 ⟨v1, T1, lo, hi, ao, L, cap, rfl, D4, d1, d2, d3, od, hx⟩ hHeld
      have z4 : W3.heap.size ≤ W4.heap.size := D4.size
      have B4 : Hid (Below w.heap.size w W4) := B3.out.trans (D4.mono B3.out.size)
      obtain ⟨hg1, hg2, hg3, hg4⟩ := hx g9 rfl
      try simp only [Act.put, pu1, pu2, pu3, pu4, pu5, pu6]
      refine Ke.y 6 rfl (fun _ _ _ h => h) ?_
      try simp only [Act.put, pu1, pu2, pu3, pu4, pu5, pu6]
      refine Ke.y 7 rfl (fun _ _ _ h => h) ?_
      try simp only [Act.put, pu1, pu2, pu3, pu4, pu5, pu6]
      refine Ke.y 8 rfl (fun _ _ _ h => h) ?_
      try simp only [Act.put, pu1, pu2, pu3, pu4, pu5, pu6]
      refine Ke.z 10 rfl (fun K hK => ?_)
      rw [if_pos (by rfl)]
      refine wp_partG 31 _ _ rfl (g9) 0 (ec R (.slice ao L cap)) rfl rfl [.string ⟨#[]⟩, .int .i64 0, .int .i64 0, .int .i64 0, .string ⟨#[]⟩, .slice none 0 0] 31 hg3 (Nat.le_of_ble_eq_true rfl) (sizeE _ _) (oneE _ rfl) [.string R.path, .int .i64 R.a, .int .i64 R.b, .int .i64 R.c, .string R.pre, .slice ao L cap] rfl ?_
      intro WZ rz gz
      refine hK.out _ _ (Ke.g hHeld gz (by intro h9; injection h9 with h9; have := B3.out.size; omega)) (fun hHeld => ?_)
      clear hK K
      try simp only [Act.put, pu1, pu2, pu3, pu4, pu5, pu6]
      have hzz := gz.size
      have oz := Od.gro9 od gz (fun k9 h9 => by injection h9 with h9; omega)
      have Dz : Below W3.heap.size W3 WZ := belowGro D4 gz D4.size (fun k9 h9 => by injection h9 with h9; omega)
      refine Ke.y 11 rfl (fun _ _ _ h => h) ?_
      try simp only [Act.put, pu1, pu2, pu3, pu4, pu5, pu6]
      refine wpAnyH_done (by kernel_rfl) ?_ _
      clear hHeld
      go_wp2_with fail
      go_meet
      exact ⟨g9, rfl, rfl, by omega, (Array.getElem?_eq_some_iff.1 rz).1, Dz, lo, hi, ao, L, cap, by omega, by omega, by omega, oz, by omega, rz⟩
    case h0x10 =>
      exact ⟨rfl, Below.drew (Below.refl _ _), fun g hg => by cases hg⟩
  case rest =>
  obtain ⟨g_w0, rfl, rfl, hg_w0, hg2_w0, b4, lo_w0, hi_w0, ao_w0, L_w0, cap_w0, d1_w0, d2_w0, d3_w0, od, hgf_w0, rr⟩ := hcut
  revert hg2_w0 b4 d3_w0 od rr
  generalize wc = W4
  intro hg2_w0 b4 d3_w0 od rr
  have z4 := b4.size
  have B4 : Hid (Below w.heap.size w W4) := B3.out.trans (b4.mono B3.out.size)
  have a_4 : Hid (W4.heap[w.heap.size]? = some (.cells #[.int .i64 q.a, .int .i64 q.b, .int .i64 q.c, .string q.pre] 40 (0, 0))) := rowKeep a_3.out b4
  have c_a_4 := Ke.c a_4
  have Dw0_4 : Hid (Od W4 lo_w0 hi_w0 (.slice ao_w0 L_w0 cap_w0) s) := od
  have rw0_4 : Hid (W4.heap[g_w0]? = some (.cells #[.string R.path, .int .i64 R.a, .int .i64 R.b, .int .i64 R.c, .string R.pre, .slice ao_w0 L_w0 cap_w0] 31 (0, 0))) := rr
  have c_rw0_4 := Ke.c rw0_4
  clear od rr b4 B3 a_3 c_a_3
  go_wp2_with fail
  refine (to_entries W4 v l (Se.later HS.out B4.out) (by omega) (fun x hx => by have := HN.out x hx; omega)).mono ?_
  rintro e W5 ⟨x1, Tx1, rfl, ox1, ax1, b5⟩
  have z5 := b5.size
  have B5 : Hid (Below w.heap.size w W5) := B4.out.trans (b5.mono B4.out.size)
  have Dw0_5 : Hid (Od W5 lo_w0 hi_w0 (.slice ao_w0 L_w0 cap_w0) s) := Od.later Dw0_4.out b5 (by omega)
  have a_5 : Hid (W5.heap[w.heap.size]? = some (.cells #[.int .i64 q.a, .int .i64 q.b, .int .i64 q.c, .string q.pre] 40 (0, 0))) := rowKeep a_4.out b5
  have rw0_5 : Hid (W5.heap[g_w0]? = some (.cells #[.string R.path, .int .i64 R.a, .int .i64 R.b, .int .i64 R.c, .string R.pre, .slice ao_w0 L_w0 cap_w0] 31 (0, 0))) := rowKeep rw0_4.out b5
  clear b5 Dw0_4 B4 a_4 c_a_4 rw0_4 c_rw0_4
  have c_a_5 := Ke.c a_5
  have c_rw0_5 := Ke.c rw0_5
  have Ex1_5 : Hid (Oes W5 W4.heap.size W5.heap.size x1 Tx1) := ox1
  have Ax1 : Hid (Alk l Tx1) := ax1
  have Lx1 : Tx1.length = l.length := ax1.len
  have Gx1 : tot15 Tx1 = tot15 l := tot15_alk ax1
  clear ox1 ax1
  go_wp2_with fail
  refine (qv W5).mono ?_
  rintro e W6 ⟨rfl, b6⟩
  have z6 := b6.size
  have B6 : Hid (Below w.heap.size w W6) := B5.out.trans (b6.mono B5.out.size)
  have Dw0_6 : Hid (Od W6 lo_w0 hi_w0 (.slice ao_w0 L_w0 cap_w0) s) := Od.later Dw0_5.out b6 (by omega)
  have Ex1_6 : Hid (Oes W6 W4.heap.size W5.heap.size x1 Tx1) := Oes.later Ex1_5.out b6 (by omega)
  have a_6 : Hid (W6.heap[w.heap.size]? = some (.cells #[.int .i64 q.a, .int .i64 q.b, .int .i64 q.c, .string q.pre] 40 (0, 0))) := rowKeep a_5.out b6
  have rw0_6 : Hid (W6.heap[g_w0]? = some (.cells #[.string R.path, .int .i64 R.a, .int .i64 R.b, .int .i64 R.c, .string R.pre, .slice ao_w0 L_w0 cap_w0] 31 (0, 0))) := rowKeep rw0_5.out b6
  clear b6 Dw0_5 Ex1_5 B5 a_5 c_a_5 rw0_5 c_rw0_5
  have c_a_6 := Ke.c a_6
  have c_rw0_6 := Ke.c rw0_6
  go_wp2_with fail
  refine (q2 W6 x1 Tx1 B6.out Ax1 Ex1_6.out.se).mono ?_
  rintro e W7 ⟨u2, rfl, o2, b7⟩
  have z7 := b7.size
  have B7 : Hid (Below w.heap.size w W7) := B6.out.trans (b7.mono B6.out.size)
  have Dw0_7 : Hid (Od W7 lo_w0 hi_w0 (.slice ao_w0 L_w0 cap_w0) s) := Od.later Dw0_6.out b7 (by omega)
  have Ex1_7 : Hid (Oes W7 W4.heap.size W5.heap.size x1 Tx1) := Oes.later Ex1_6.out b7 (by omega)
  have a_7 : Hid (W7.heap[w.heap.size]? = some (.cells #[.int .i64 q.a, .int .i64 q.b, .int .i64 q.c, .string q.pre] 40 (0, 0))) := rowKeep a_6.out b7
  have rw0_7 : Hid (W7.heap[g_w0]? = some (.cells #[.string R.path, .int .i64 R.a, .int .i64 R.b, .int .i64 R.c, .string R.pre, .slice ao_w0 L_w0 cap_w0] 31 (0, 0))) := rowKeep rw0_6.out b7
  clear b7 Dw0_6 Ex1_6 B6 a_6 c_a_6 rw0_6 c_rw0_6
  have c_a_7 := Ke.c a_7
  have c_rw0_7 := Ke.c rw0_7
  obtain ⟨ao_g, L_g, cap_g, rfl⟩ : ∃ ao L cap, u2 = .slice ao L cap := by obtain ⟨ao, cap, e9⟩ := Od.slice o2; exact ⟨ao, _, cap, e9⟩
  have Dg_7 : Hid (Od W7 W6.heap.size W7.heap.size (.slice ao_g L_g cap_g) s) := o2
  clear o2
  obtain ⟨W8, HW8, b8, y8, hS8, g0_8⟩ := Ke.l1 W7 #[.string ⟨#[]⟩, .int .i64 0, .int .i64 0, .int .i64 0, .string ⟨#[]⟩, .slice none 0 0] 31
  have z8 := b8.size
  have B8 : Hid (Below w.heap.size w W8) := B7.out.trans (b8.mono B7.out.size)
  have Dw0_8 : Hid (Od W8 lo_w0 hi_w0 (.slice ao_w0 L_w0 cap_w0) s) := Od.later Dw0_7.out b8 (by omega)
  have Ex1_8 : Hid (Oes W8 W4.heap.size W5.heap.size x1 Tx1) := Oes.later Ex1_7.out b8 (by omega)
  have a_8 : Hid (W8.heap[w.heap.size]? = some (.cells #[.int .i64 q.a, .int .i64 q.b, .int .i64 q.c, .string q.pre] 40 (0, 0))) := rowKeep a_7.out b8
  have c_a_8 := Ke.c a_8
  have rw0_8 : Hid (W8.heap[g_w0]? = some (.cells #[.string R.path, .int .i64 R.a, .int .i64 R.b, .int .i64 R.c, .string R.pre, .slice ao_w0 L_w0 cap_w0] 31 (0, 0))) := rowKeep rw0_7.out b8
  have c_rw0_8 := Ke.c rw0_8
  have Dg_8 : Hid (Od W8 W6.heap.size W7.heap.size (.slice ao_g L_g cap_g) s) := Od.later Dg_7.out b8 (by omega)
  clear Dw0_7 Ex1_7 a_7 c_a_7 rw0_7 c_rw0_7 Dg_7 b8
  go_wp2_with ((try rw [HW8.out]); refine wpl_partG rfl 31 _ _ rfl (W7.heap.size) 0 (ec R (.slice ao_g L_g cap_g)) rfl rfl [.string ⟨#[]⟩, .int .i64 0, .int .i64 0, .int .i64 0, .string ⟨#[]⟩, .slice none 0 0] 31 g0_8.out (Nat.le_of_ble_eq_true rfl) (sizeE _ _) (oneE _ rfl) [.string R.path, .int .i64 R.a, .int .i64 R.b, .int .i64 R.c, .string R.pre, .slice ao_g L_g cap_g] rfl ?_)
  intro W9 rg gg
  have z9 := gg.size
  have B9 : Hid (Below w.heap.size w W9) := belowGro B8.out gg B8.out.size (fun k9 h9 => by injection h9 with h9; have := B8.out.size; omega)
  have Dw0_9 : Hid (Od W9 lo_w0 hi_w0 (.slice ao_w0 L_w0 cap_w0) s) := Od.gro9 Dw0_8.out gg (fun k9 h9 => by injection h9 with h9; omega)
  have Ex1_9 : Hid (Oes W9 W4.heap.size W5.heap.size x1 Tx1) := Oes.gro9 Ex1_8.out gg (fun k9 h9 => by injection h9 with h9; omega)
  have a_9 : Hid (W9.heap[w.heap.size]? = some (.cells #[.int .i64 q.a, .int .i64 q.b, .int .i64 q.c, .string q.pre] 40 (0, 0))) := Ke.s a_8 gg
  have c_a_9 := Ke.c a_9
  have rw0_9 : Hid (W9.heap[g_w0]? = some (.cells #[.string R.path, .int .i64 R.a, .int .i64 R.b, .int .i64 R.c, .string R.pre, .slice ao_w0 L_w0 cap_w0] 31 (0, 0))) := Ke.s rw0_8 gg
  have c_rw0_9 := Ke.c rw0_9
  have Dg_9 : Hid (Od W9 W6.heap.size W7.heap.size (.slice ao_g L_g cap_g) s) := Od.gro9 Dg_8.out gg (fun k9 h9 => by injection h9 with h9; omega)
  clear B8 Dw0_8 Ex1_8 a_8 c_a_8 rw0_8 c_rw0_8 Dg_8
  have rg_9 : Hid (W9.heap[W7.heap.size]? = some (.cells #[.string R.path, .int .i64 R.a, .int .i64 R.b, .int .i64 R.c, .string R.pre, .slice ao_g L_g cap_g] 31 (0, 0))) := rg
  have c_rg_9 := Ke.c rg_9
  clear rg gg g0_8
  go_wp2_with fail
  refine (eq_entry W9 R (.slice ao_g L_g cap_g) (.slice ao_w0 L_w0 cap_w0) s Dg_9.out.sd Dw0_9.out.sd (by omega)).mono ?_
  rintro e W10 ⟨rfl, b10⟩
  have z10 := b10.size
  have B10 : Hid (Below w.heap.size w W10) := B9.out.trans (b10.mono B9.out.size)
  have Dw0_10 : Hid (Od W10 lo_w0 hi_w0 (.slice ao_w0 L_w0 cap_w0) s) := Od.later Dw0_9.out b10 (by omega)
  have Ex1_10 : Hid (Oes W10 W4.heap.size W5.heap.size x1 Tx1) := Oes.later Ex1_9.out b10 (by omega)
  have Dg_10 : Hid (Od W10 W6.heap.size W7.heap.size (.slice ao_g L_g cap_g) s) := Od.later Dg_9.out b10 (by omega)
  have a_10 : Hid (W10.heap[w.heap.size]? = some (.cells #[.int .i64 q.a, .int .i64 q.b, .int .i64 q.c, .string q.pre] 40 (0, 0))) := rowKeep a_9.out b10
  have rw0_10 : Hid (W10.heap[g_w0]? = some (.cells #[.string R.path, .int .i64 R.a, .int .i64 R.b, .int .i64 R.c, .string R.pre, .slice ao_w0 L_w0 cap_w0] 31 (0, 0))) := rowKeep rw0_9.out b10
  have rg_10 : Hid (W10.heap[W7.heap.size]? = some (.cells #[.string R.path, .int .i64 R.a, .int .i64 R.b, .int .i64 R.c, .string R.pre, .slice ao_g L_g cap_g] 31 (0, 0))) := rowKeep rg_9.out b10
  clear b10 Dw0_9 Ex1_9 Dg_9 B9 a_9 c_a_9 rw0_9 c_rw0_9 rg_9 c_rg_9
  have c_a_10 := Ke.c a_10
  have c_rw0_10 := Ke.c rw0_10
  have c_rg_10 := Ke.c rg_10
  go_wp2_with fail
  refine (to_entries W10 v l (Se.later HS.out B10.out) (by omega) (fun x hx => by have := HN.out x hx; omega)).mono ?_
  rintro e W11 ⟨x3, Tx3, rfl, ox3, ax3, b11⟩
  have z11 := b11.size
  have B11 : Hid (Below w.heap.size w W11) := B10.out.trans (b11.mono B10.out.size)
  have Dw0_11 : Hid (Od W11 lo_w0 hi_w0 (.slice ao_w0 L_w0 cap_w0) s) := Od.later Dw0_10.out b11 (by omega)
  have Ex1_11 : Hid (Oes W11 W4.heap.size W5.heap.size x1 Tx1) := Oes.later Ex1_10.out b11 (by omega)
  have Dg_11 : Hid (Od W11 W6.heap.size W7.heap.size (.slice ao_g L_g cap_g) s) := Od.later Dg_10.out b11 (by omega)
  have a_11 : Hid (W11.heap[w.heap.size]? = some (.cells #[.int .i64 q.a, .int .i64 q.b, .int .i64 q.c, .string q.pre] 40 (0, 0))) := rowKeep a_10.out b11
  have rw0_11 : Hid (W11.heap[g_w0]? = some (.cells #[.string R.path, .int .i64 R.a, .int .i64 R.b, .int .i64 R.c, .string R.pre, .slice ao_w0 L_w0 cap_w0] 31 (0, 0))) := rowKeep rw0_10.out b11
  have rg_11 : Hid (W11.heap[W7.heap.size]? = some (.cells #[.string R.path, .int .i64 R.a, .int .i64 R.b, .int .i64 R.c, .string R.pre, .slice ao_g L_g cap_g] 31 (0, 0))) := rowKeep rg_10.out b11
  clear b11 Dw0_10 Ex1_10 Dg_10 B10 a_10 c_a_10 rw0_10 c_rw0_10 rg_10 c_rg_10
  have c_a_11 := Ke.c a_11
  have c_rw0_11 := Ke.c rw0_11
  have c_rg_11 := Ke.c rg_11
  have Ex3_11 : Hid (Oes W11 W10.heap.size W11.heap.size x3 Tx3) := ox3
  have Ax3 : Hid (Alk l Tx3) := ax3
  have Lx3 : Tx3.length = l.length := ax3.len
  have Gx3 : tot15 Tx3 = tot15 l := tot15_alk ax3
  clear ox3 ax3
  go_wp2_with fail
  refine (eq_entries W11 x1 x3 Tx1 Tx3 Ex1_11.out.se Ex3_11.out.se (Alk.trans Ax1.out.symm Ax3.out) (by omega) (Alk.all (p := fun _ s => s.length ≤ 1000000000000) Ax1.out (fun x hx => by have := HN.out x hx; omega))).mono ?_
  rintro e W12 ⟨rfl, b12⟩
  have z12 := b12.size
  have B12 : Hid (Below w.heap.size w W12) := B11.out.trans (b12.mono B11.out.size)
  have Dw0_12 : Hid (Od W12 lo_w0 hi_w0 (.slice ao_w0 L_w0 cap_w0) s) := Od.later Dw0_11.out b12 (by omega)
  have Ex1_12 : Hid (Oes W12 W4.heap.size W5.heap.size x1 Tx1) := Oes.later Ex1_11.out b12 (by omega)
  have Dg_12 : Hid (Od W12 W6.heap.size W7.heap.size (.slice ao_g L_g cap_g) s) := Od.later Dg_11.out b12 (by omega)
  have Ex3_12 : Hid (Oes W12 W10.heap.size W11.heap.size x3 Tx3) := Oes.later Ex3_11.out b12 (by omega)
  have a_12 : Hid (W12.heap[w.heap.size]? = some (.cells #[.int .i64 q.a, .int .i64 q.b, .int .i64 q.c, .string q.pre] 40 (0, 0))) := rowKeep a_11.out b12
  have rw0_12 : Hid (W12.heap[g_w0]? = some (.cells #[.string R.path, .int .i64 R.a, .int .i64 R.b, .int .i64 R.c, .string R.pre, .slice ao_w0 L_w0 cap_w0] 31 (0, 0))) := rowKeep rw0_11.out b12
  have rg_12 : Hid (W12.heap[W7.heap.size]? = some (.cells #[.string R.path, .int .i64 R.a, .int .i64 R.b, .int .i64 R.c, .string R.pre, .slice ao_g L_g cap_g] 31 (0, 0))) := rowKeep rg_11.out b12
  clear b12 Dw0_11 Ex1_11 Dg_11 Ex3_11 B11 a_11 c_a_11 rw0_11 c_rw0_11 rg_11 c_rg_11
  have c_a_12 := Ke.c a_12
  have c_rw0_12 := Ke.c rw0_12
  have c_rg_12 := Ke.c rg_12
  clear Ex3_12
  go_wp2_with fail
  refine (mark_entries W12 x1 _ _ Tx1 1 Ex1_12.out (by omega) (by omega) (by omega) (by omega)).mono ?_
  rintro e W13 ⟨rfl, b13⟩
  have z13 := b13.size
  have B13 : Hid (Below w.heap.size w W13) := B12.out.trans (b13.below (by omega) (B12.out.size))
  have Dw0_13 : Hid (Od W13 lo_w0 hi_w0 (.slice ao_w0 L_w0 cap_w0) s) := Od.apart Dw0_12.out b13 (by omega) (by omega)
  have Dg_13 : Hid (Od W13 W6.heap.size W7.heap.size (.slice ao_g L_g cap_g) s) := Od.apart Dg_12.out b13 (by omega) (by omega)
  have a_13 : Hid (W13.heap[w.heap.size]? = some (.cells #[.int .i64 q.a, .int .i64 q.b, .int .i64 q.c, .string q.pre] 40 (0, 0))) := (b13.block (w.heap.size) (by omega) (by omega)).trans a_12.out
  have rw0_13 : Hid (W13.heap[g_w0]? = some (.cells #[.string R.path, .int .i64 R.a, .int .i64 R.b, .int .i64 R.c, .string R.pre, .slice ao_w0 L_w0 cap_w0] 31 (0, 0))) := (b13.block (g_w0) (by omega) (by omega)).trans rw0_12.out
  have rg_13 : Hid (W13.heap[W7.heap.size]? = some (.cells #[.string R.path, .int .i64 R.a, .int .i64 R.b, .int .i64 R.c, .string R.pre, .slice ao_g L_g cap_g] 31 (0, 0))) := (b13.block (W7.heap.size) (by omega) (by omega)).trans rg_12.out
  clear b13 Dw0_12 Ex1_12 Dg_12 B12 a_12 c_a_12 rw0_12 c_rw0_12 rg_12 c_rg_12
  have c_a_13 := Ke.c a_13
  have c_rw0_13 := Ke.c rw0_13
  have c_rg_13 := Ke.c rg_13
  obtain ⟨M, hM, hM0⟩ : ∃ M : Int, ((1 + 5 * tot15 Tx1 : Nat) : Int) = M ∧ ¬ M < 0 := ⟨_, rfl, by omega⟩
  rw [hM]
  clear hM
  go_wp2_with fail
  refine (eq_entry W13 R (.slice ao_g L_g cap_g) (.slice ao_w0 L_w0 cap_w0) s Dg_13.out.sd Dw0_13.out.sd (by omega)).mono ?_
  rintro e W14 ⟨rfl, b14⟩
  have z14 := b14.size
  have B14 : Hid (Below w.heap.size w W14) := B13.out.trans (b14.mono B13.out.size)
  have Dw0_14 : Hid (Od W14 lo_w0 hi_w0 (.slice ao_w0 L_w0 cap_w0) s) := Od.later Dw0_13.out b14 (by omega)
  have Dg_14 : Hid (Od W14 W6.heap.size W7.heap.size (.slice ao_g L_g cap_g) s) := Od.later Dg_13.out b14 (by omega)
  have a_14 : Hid (W14.heap[w.heap.size]? = some (.cells #[.int .i64 q.a, .int .i64 q.b, .int .i64 q.c, .string q.pre] 40 (0, 0))) := rowKeep a_13.out b14
  have rw0_14 : Hid (W14.heap[g_w0]? = some (.cells #[.string R.path, .int .i64 R.a, .int .i64 R.b, .int .i64 R.c, .string R.pre, .slice ao_w0 L_w0 cap_w0] 31 (0, 0))) := rowKeep rw0_13.out b14
  have rg_14 : Hid (W14.heap[W7.heap.size]? = some (.cells #[.string R.path, .int .i64 R.a, .int .i64 R.b, .int .i64 R.c, .string R.pre, .slice ao_g L_g cap_g] 31 (0, 0))) := rowKeep rg_13.out b14
  clear b14 Dw0_13 Dg_13 B13 a_13 c_a_13 rw0_13 c_rw0_13 rg_13 c_rg_13
  have c_a_14 := Ke.c a_14
  have c_rw0_14 := Ke.c rw0_14
  have c_rg_14 := Ke.c rg_14
  obtain ⟨C, hC⟩ : ∃ C, s.length = C := ⟨_, rfl⟩
  obtain ⟨N, hN, hN0⟩ : ∃ N : Int, ((1 + 5 * C : Nat) : Int) = N ∧ ¬ N < 0 := ⟨_, rfl, by omega⟩
  have n1 : (N != N) = false := by simp
  have q8 := mark_entry W14 R (.slice ao_g L_g cap_g) _ _ s 1 Dg_14.out (by omega) (by omega) (by omega) (by omega)
  rw [hC, hN] at q8
  have HN2 : Hid (((1 + 5 * C : Nat) : Int) = N) := hN
  clear hN
  go_wp2_with fail
  refine (q8).mono ?_
  rintro e W15 ⟨rfl, om, b15⟩
  have z15 := b15.size
  have B15 : Hid (Below w.heap.size w W15) := B14.out.trans (b15.below (by omega) (B14.out.size))
  have Dw0_15 : Hid (Od W15 lo_w0 hi_w0 (.slice ao_w0 L_w0 cap_w0) s) := Od.apart Dw0_14.out b15 (by omega) (by omega)
  have a_15 : Hid (W15.heap[w.heap.size]? = some (.cells #[.int .i64 q.a, .int .i64 q.b, .int .i64 q.c, .string q.pre] 40 (0, 0))) := (b15.block (w.heap.size) (by omega) (by omega)).trans a_14.out
  have rw0_15 : Hid (W15.heap[g_w0]? = some (.cells #[.string R.path, .int .i64 R.a, .int .i64 R.b, .int .i64 R.c, .string R.pre, .slice ao_w0 L_w0 cap_w0] 31 (0, 0))) := (b15.block (g_w0) (by omega) (by omega)).trans rw0_14.out
  have rg_15 : Hid (W15.heap[W7.heap.size]? = some (.cells #[.string R.path, .int .i64 R.a, .int .i64 R.b, .int .i64 R.c, .string R.pre, .slice ao_g L_g cap_g] 31 (0, 0))) := (b15.block (W7.heap.size) (by omega) (by omega)).trans rg_14.out
  clear b15 Dw0_14 Dg_14 B14 a_14 c_a_14 rw0_14 c_rw0_14 rg_14 c_rg_14
  have c_a_15 := Ke.c a_15
  have c_rw0_15 := Ke.c rw0_15
  have c_rg_15 := Ke.c rg_15
  have Dm_15 : Hid (Od W15 W6.heap.size W7.heap.size (.slice ao_g L_g cap_g) (mds 1 C)) := om
  clear om q8
  have q9 := held_entry W15 R (.slice ao_g L_g cap_g) C 1 Dm_15.out.sd (by omega) (by omega) (by omega)
  rw [HN2.out] at q9
  go_wp2_with fail
  refine (q9).mono ?_
  rintro e W16 ⟨rfl, b16⟩
  have z16 := b16.size
  have B16 : Hid (Below w.heap.size w W16) := B15.out.trans (b16.mono B15.out.size)
  have Dw0_16 : Hid (Od W16 lo_w0 hi_w0 (.slice ao_w0 L_w0 cap_w0) s) := Od.later Dw0_15.out b16 (by omega)
  have Dm_16 : Hid (Od W16 W6.heap.size W7.heap.size (.slice ao_g L_g cap_g) (mds 1 C)) := Od.later Dm_15.out b16 (by omega)
  have a_16 : Hid (W16.heap[w.heap.size]? = some (.cells #[.int .i64 q.a, .int .i64 q.b, .int .i64 q.c, .string q.pre] 40 (0, 0))) := rowKeep a_15.out b16
  have rw0_16 : Hid (W16.heap[g_w0]? = some (.cells #[.string R.path, .int .i64 R.a, .int .i64 R.b, .int .i64 R.c, .string R.pre, .slice ao_w0 L_w0 cap_w0] 31 (0, 0))) := rowKeep rw0_15.out b16
  have rg_16 : Hid (W16.heap[W7.heap.size]? = some (.cells #[.string R.path, .int .i64 R.a, .int .i64 R.b, .int .i64 R.c, .string R.pre, .slice ao_g L_g cap_g] 31 (0, 0))) := rowKeep rg_15.out b16
  clear b16 Dw0_15 Dm_15 B15 a_15 c_a_15 rw0_15 c_rw0_15 rg_15 c_rg_15
  have c_a_16 := Ke.c a_16
  have c_rw0_16 := Ke.c rw0_16
  have c_rg_16 := Ke.c rg_16
  clear q9
  go_upto_region 29 with fail
  go_cut [16, 17] (fun s16 s17 wx => ∃ g : Nat, s16 = .pointer (some ⟨g, 0, none⟩) ∧ s17 = .bool ok ∧ W16.heap.size ≤ g ∧ g < wx.heap.size ∧ Below W16.heap.size W16 wx ∧ ∃ (lo hi : Nat) (ao : Option Addr) (L cap : Nat), W16.heap.size ≤ lo ∧ lo ≤ hi ∧ hi ≤ wx.heap.size ∧ Od wx lo hi (.slice ao L cap) s ∧ (g < lo ∨ hi ≤ g) ∧ wx.heap[g]? = some (.cells #[.string R.path, .int .i64 R.a, .int .i64 R.b, .int .i64 R.c, .string R.pre, .slice ao L cap] 31 (0, 0)))
  case first =>
    have D16 : Hid (Below W16.heap.size W16 W16) := Below.refl _ _
    refine wp_region_held_drew (S := fun w' => ∀ j, w'.cell? ⟨w.heap.size, j, none⟩ = #[.int .i64 q.a, .int .i64 q.b, .int .i64 q.c, .string q.pre][j]?) (by kernel_rfl) c_a_16 (fun hHeld => ?_)
    refine Ke.y 0 rfl (fun _ _ _ h => h) ?_
    try simp only [Act.put, pu1, pu2, pu3, pu4, pu5, pu6]
    refine Ke.y 2 rfl (fun _ _ _ h => h) ?_
    try simp only [Act.put, pu1, pu2, pu3, pu4, pu5, pu6]
    refine Ke.y 3 rfl (fun _ _ _ h => h) ?_
    try simp only [Act.put, pu1, pu2, pu3, pu4, pu5, pu6]
    refine chain3 1 4 5 9 (fun aA xA aB wB => aB = aA.put (some 16) xA ∧ Below W16.heap.size W16 wB ∧ (∀ g : Nat, xA = .pointer (some ⟨g, 0, none⟩) → W16.heap.size ≤ g ∧ g < wB.heap.size ∧ wB.heap[g]? = some (.cells #[.string ⟨#[]⟩, .int .i64 0, .int .i64 0, .int .i64 0, .string ⟨#[]⟩, .slice none 0 0] 31 (0, 0)))) (fun aA xA aB wB => ∃ (v1 : Value) (T1 : List Ev), aB = (aA.put (some 93) v1).put (some 16) xA ∧ Below W16.heap.size W16 wB ∧ Hid (Alk l T1) ∧ Se wB v1 T1 ∧ (∀ g : Nat, xA = .pointer (some ⟨g, 0, none⟩) → W16.heap.size ≤ g ∧ g < wB.heap.size ∧ wB.heap[g]? = some (.cells #[.string ⟨#[]⟩, .int .i64 0, .int .i64 0, .int .i64 0, .string ⟨#[]⟩, .slice none 0 0] 31 (0, 0)))) (fun aA xA aB wB => ∃ (v1 : Value) (T1 : List Ev), aB = ((aA.put (some 93) v1).put (some 96) (.agg #[.int .i64 q.a, .int .i64 q.b, .int .i64 q.c, .string q.pre])).put (some 16) xA ∧ Below W16.heap.size W16 wB ∧ Hid (Alk l T1) ∧ Se wB v1 T1 ∧ (∀ g : Nat, xA = .pointer (some ⟨g, 0, none⟩) → W16.heap.size ≤ g ∧ g < wB.heap.size ∧ wB.heap[g]? = some (.cells #[.string ⟨#[]⟩, .int .i64 0, .int .i64 0, .int .i64 0, .string ⟨#[]⟩, .slice none 0 0] 31 (0, 0)))) (fun aA xA aB wB => ∃ (v1 : Value) (T1 : List Ev) (lo hi : Nat) (ao : Option Addr) (L cap : Nat), aB = (((aA.put (some 93) v1).put (some 96) (.agg #[.int .i64 q.a, .int .i64 q.b, .int .i64 q.c, .string q.pre])).put (some 97) (.tuple #[.agg #[.string R.path, .int .i64 R.a, .int .i64 R.b, .int .i64 R.c, .string R.pre, .slice ao L cap], .bool ok])).put (some 16) xA ∧ Below W16.heap.size W16 wB ∧ W16.heap.size ≤ lo ∧ lo ≤ hi ∧ hi ≤ wB.heap.size ∧ Od wB lo hi (.slice ao L cap) s ∧ (∀ g : Nat, xA = .pointer (some ⟨g, 0, none⟩) → W16.heap.size ≤ g ∧ g < wB.heap.size ∧ wB.heap[g]? = some (.cells #[.string ⟨#[]⟩, .int .i64 0, .int .i64 0, .int .i64 0, .string ⟨#[]⟩, .slice none 0 0] 31 (0, 0)) ∧ (g < lo ∨ hi ≤ g))) (by decide) (by decide) (by decide) (by kernel_rfl) (by kernel_rfl) (by kernel_rfl) (by kernel_rfl) (by kernel_rfl) (by kernel_rfl) ?hC0x29 ?hC1x29 ?hC2x29 ?hA0x29 ?hA1x29 ?hA2x29 ?tJx29 ?tKx29 ?h0x29 hHeld
    case hC0x29 =>
      rintro xA a1 wq ⟨rfl, hD, hx⟩ hHeld
      have hBw : Below w.heap.size w wq := B16.out.trans (hD.mono B16.out.size)
      refine wpOp_weak rfl (fun K hK => ?_)
      try simp only [Act.put, pu1, pu2, pu3, pu4, pu5, pu6]
      go_simp
      refine (to_entries wq v l (Se.later HS.out hBw) (by omega) (fun x hx => by have := HN.out x hx; omega)).mono ?_
      rintro e w2 ⟨v1, T1, rfl, p1, p2, b2⟩
      refine hK.out _ _ ⟨(Ke.k hHeld b2), v1, T1, rfl, hD.trans (b2.mono hD.size), p2, p1.se, fun g hg => ?_⟩
      obtain ⟨g1, g2, g3⟩ := hx g hg
      exact ⟨g1, by have := b2.size; omega, rowKeep g3 b2⟩
    case hC1x29 =>
      rintro xA a1 wq ⟨v1, T1, rfl, hD, hA, hS, hx⟩ hHeld
      have hBw : Below w.heap.size w wq := B16.out.trans (hD.mono B16.out.size)
      refine wpOp_weak rfl (fun K hK => ?_)
      try simp only [Act.put, pu1, pu2, pu3, pu4, pu5, pu6]
      go_simp
      refine (qv wq).mono ?_
      rintro e w2 ⟨rfl, b2⟩
      refine hK.out _ _ ⟨(Ke.k hHeld b2), v1, T1, rfl, hD.trans (b2.mono hD.size), hA, hS.later b2, fun g hg => ?_⟩
      obtain ⟨g1, g2, g3⟩ := hx g hg
      exact ⟨g1, by have := b2.size; omega, rowKeep g3 b2⟩
    case hC2x29 =>
      rintro xA a1 wq ⟨v1, T1, rfl, hD, hA, hS, hx⟩ hHeld
      have hBw : Below w.heap.size w wq := B16.out.trans (hD.mono B16.out.size)
      refine wpOp_weak rfl (fun K hK => ?_)
      try simp only [Act.put, pu1, pu2, pu3, pu4, pu5, pu6]
      go_simp
      refine (q2 wq v1 T1 hBw hA hS).mono ?_
      rintro e w2 ⟨u2, rfl, o2, b2⟩
      obtain ⟨ao, L, cap, rfl⟩ : ∃ ao L cap, u2 = .slice ao L cap := by obtain ⟨ao, cap, e9⟩ := Od.slice o2; exact ⟨ao, _, cap, e9⟩
      have hzq := b2.size
      have hzd := hD.size
      refine hK.out _ _ ⟨(Ke.k hHeld b2), v1, T1, wq.heap.size, w2.heap.size, ao, L, cap, rfl, hD.trans (b2.mono hD.size), by omega, by omega, Nat.le_refl _, o2, fun g hg => ?_⟩
      obtain ⟨g1, g2, g3⟩ := hx g hg
      exact ⟨g1, by omega, rowKeep g3 b2, by omega⟩
    case hA0x29 =>
      rintro a1 wq ⟨rfl, hD, hx⟩ hHeld
      refine wpOp_weak rfl (fun K hK => ?_)
      try simp only [Act.put, pu1, pu2, pu3, pu4, pu5, pu6]
      go_simp
      refine hK.out _ _ ⟨(Ke.k hHeld ((Below.refl _ _).alloc (Nat.le_refl _) _)), wq.heap.size, rfl, hD.alloc hD.size _, fun g hg => ?_⟩
      obtain rfl : wq.heap.size = g := by simpa using hg
      exact ⟨hD.size, by simp, heap_alloc_new wq _⟩
    case hA1x29 =>
      rintro a1 wq ⟨v1, T1, rfl, hD, hA, hS, hx⟩ hHeld
      refine wpOp_weak rfl (fun K hK => ?_)
      try simp only [Act.put, pu1, pu2, pu3, pu4, pu5, pu6]
      go_simp
      refine hK.out _ _ ⟨(Ke.k hHeld ((Below.refl _ _).alloc (Nat.le_refl _) _)), wq.heap.size, v1, T1, rfl, hD.alloc hD.size _, hA, hS.later ((Below.refl _ _).alloc (Nat.le_refl _) _), fun g hg => ?_⟩
      obtain rfl : wq.heap.size = g := by simpa using hg
      exact ⟨hD.size, by simp, heap_alloc_new wq _⟩
    case hA2x29 =>
      rintro a1 wq ⟨v1, T1, rfl, hD, hA, hS, hx⟩ hHeld
      refine wpOp_weak rfl (fun K hK => ?_)
      try simp only [Act.put, pu1, pu2, pu3, pu4, pu5, pu6]
      go_simp
      refine hK.out _ _ ⟨(Ke.k hHeld ((Below.refl _ _).alloc (Nat.le_refl _) _)), wq.heap.size, v1, T1, rfl, hD.alloc hD.size _, hA, hS.later ((Below.refl _ _).alloc (Nat.le_refl _) _), fun g hg => ?_⟩
      obtain rfl : wq.heap.size = g := by simpa using hg
      exact ⟨hD.size, by simp, heap_alloc_new wq _⟩
    case tJx29 =>
      rintro a1 W17 ⟨v1, T1, lo, hi, ao, L, cap, rfl, D17, d1, d2, d3, od, hx⟩ hHeld
      have z17 : W16.heap.size ≤ W17.heap.size := D17.size
      have B17 : Hid (Below w.heap.size w W17) := B16.out.trans (D17.mono B16.out.size)
      try simp only [Act.put, pu1, pu2, pu3, pu4, pu5, pu6]
      refine Ke.y 6 rfl (fun _ _ _ h => h) ?_
      try simp only [Act.put, pu1, pu2, pu3, pu4, pu5, pu6]
      refine Ke.y 7 rfl (fun _ _ _ h => h) ?_
      try simp only [Act.put, pu1, pu2, pu3, pu4, pu5, pu6]
      refine Ke.y 8 rfl (fun _ _ _ h => h) ?_
      try simp only [Act.put, pu1, pu2, pu3, pu4, pu5, pu6]
      refine Ke.z 9 rfl (fun K hK => ?_)
      go_simp
      obtain ⟨W18, HW18, b18, y18, hS18, rr⟩ := Ke.l1 W17 #[.string ⟨#[]⟩, .int .i64 0, .int .i64 0, .int .i64 0, .string ⟨#[]⟩, .slice none 0 0] 31
      refine hK.out _ _ (Ke.k hHeld ((Below.refl _ _).alloc (Nat.le_refl _) _)) (fun hHeld => ?_)
      clear hK K
      try simp only [Act.put, pu1, pu2, pu3, pu4, pu5, pu6]
      have HHW := HW18.out
      rw [HHW] at hHeld ⊢
      clear HHW
      have od : Od W18 lo hi (.slice ao L cap) s := Od.later od b18 (by omega)
      have D18 : Below W16.heap.size W16 W18 := D17.trans (b18.mono D17.size)
      have B18 : Hid (Below w.heap.size w W18) := B17.out.trans (b18.mono B17.out.size)
      have zz : W17.heap.size ≤ W18.heap.size := b18.size
      have hg3 := rr.out
      refine Ke.z 10 rfl (fun K hK => ?_)
      rw [if_pos (by rfl)]
      refine wp_partG 31 _ _ rfl (W17.heap.size) 0 (ec R (.slice ao L cap)) rfl rfl [.string ⟨#[]⟩, .int .i64 0, .int .i64 0, .int .i64 0, .string ⟨#[]⟩, .slice none 0 0] 31 hg3 (Nat.le_of_ble_eq_true rfl) (sizeE _ _) (oneE _ rfl) [.string R.path, .int .i64 R.a, .int .i64 R.b, .int .i64 R.c, .string R.pre, .slice ao L cap] rfl ?_
      intro WZ rz gz
      refine hK.out _ _ (Ke.g hHeld gz (by intro h9; injection h9 with h9; have := B16.out.size; omega)) (fun hHeld => ?_)
      clear hK K
      try simp only [Act.put, pu1, pu2, pu3, pu4, pu5, pu6]
      have hzz := gz.size
      have oz := Od.gro9 od gz (fun k9 h9 => by injection h9 with h9; omega)
      have Dz : Below W16.heap.size W16 WZ := belowGro D18 gz D18.size (fun k9 h9 => by injection h9 with h9; omega)
      refine Ke.y 11 rfl (fun _ _ _ h => h) ?_
      try simp only [Act.put, pu1, pu2, pu3, pu4, pu5, pu6]
      refine wpAnyH_done (by kernel_rfl) ?_ _
      clear hHeld
      go_wp2_with fail
      go_meet
      exact ⟨W17.heap.size, rfl, rfl, by omega, (Array.getElem?_eq_some_iff.1 rz).1, Dz, lo, hi, ao, L, cap, by omega, by omega, by omega, oz, by omega, rz⟩
    case tKx29 =>
      rintro g9 a1 W17 ⟨v1, T1, lo, hi, ao, L, cap, rfl, D17, d1, d2, d3, od, hx⟩ hHeld
      have z17 : W16.heap.size ≤ W17.heap.size := D17.size
      have B17 : Hid (Below w.heap.size w W17) := B16.out.trans (D17.mono B16.out.size)
      obtain ⟨hg1, hg2, hg3, hg4⟩ := hx g9 rfl
      try simp only [Act.put, pu1, pu2, pu3, pu4, pu5, pu6]
      refine Ke.y 6 rfl (fun _ _ _ h => h) ?_
      try simp only [Act.put, pu1, pu2, pu3, pu4, pu5, pu6]
      refine Ke.y 7 rfl (fun _ _ _ h => h) ?_
      try simp only [Act.put, pu1, pu2, pu3, pu4, pu5, pu6]
      refine Ke.y 8 rfl (fun _ _ _ h => h) ?_
      try simp only [Act.put, pu1, pu2, pu3, pu4, pu5, pu6]
      refine Ke.z 10 rfl (fun K hK => ?_)
      rw [if_pos (by rfl)]
      refine wp_partG 31 _ _ rfl (g9) 0 (ec R (.slice ao L cap)) rfl rfl [.string ⟨#[]⟩, .int .i64 0, .int .i64 0, .int .i64 0, .string ⟨#[]⟩, .slice none 0 0] 31 hg3 (Nat.le_of_ble_eq_true rfl) (sizeE _ _) (oneE _ rfl) [.string R.path, .int .i64 R.a, .int .i64 R.b, .int .i64 R.c, .string R.pre, .slice ao L cap] rfl ?_
      intro WZ rz gz
      refine hK.out _ _ (Ke.g hHeld gz (by intro h9; injection h9 with h9; have := B16.out.size; omega)) (fun hHeld => ?_)
      clear hK K
      try simp only [Act.put, pu1, pu2, pu3, pu4, pu5, pu6]
      have hzz := gz.size
      have oz := Od.gro9 od gz (fun k9 h9 => by injection h9 with h9; omega)
      have Dz : Below W16.heap.size W16 WZ := belowGro D17 gz D17.size (fun k9 h9 => by injection h9 with h9; omega)
      refine Ke.y 11 rfl (fun _ _ _ h => h) ?_
      try simp only [Act.put, pu1, pu2, pu3, pu4, pu5, pu6]
      refine wpAnyH_done (by kernel_rfl) ?_ _
      clear hHeld
      go_wp2_with fail
      go_meet
      exact ⟨g9, rfl, rfl, by omega, (Array.getElem?_eq_some_iff.1 rz).1, Dz, lo, hi, ao, L, cap, by omega, by omega, by omega, oz, by omega, rz⟩
    case h0x29 =>
      exact ⟨rfl, Below.drew (Below.refl _ _), fun g hg => by cases hg⟩
  case rest =>
  obtain ⟨g_h0, rfl, rfl, hg_h0, hg2_h0, b17, lo_h0, hi_h0, ao_h0, L_h0, cap_h0, d1_h0, d2_h0, d3_h0, od, hgf_h0, rr⟩ := hcut
  revert hg2_h0 b17 d3_h0 od rr
  generalize wc = W17
  intro hg2_h0 b17 d3_h0 od rr
  have z17 := b17.size
  have B17 : Hid (Below w.heap.size w W17) := B16.out.trans (b17.mono B16.out.size)
  have Dw0_17 : Hid (Od W17 lo_w0 hi_w0 (.slice ao_w0 L_w0 cap_w0) s) := Od.later Dw0_16.out b17 (by omega)
  have Dm_17 : Hid (Od W17 W6.heap.size W7.heap.size (.slice ao_g L_g cap_g) (mds 1 C)) := Od.later Dm_16.out b17 (by omega)
  have a_17 : Hid (W17.heap[w.heap.size]? = some (.cells #[.int .i64 q.a, .int .i64 q.b, .int .i64 q.c, .string q.pre] 40 (0, 0))) := rowKeep a_16.out b17
  have c_a_17 := Ke.c a_17
  have rw0_17 : Hid (W17.heap[g_w0]? = some (.cells #[.string R.path, .int .i64 R.a, .int .i64 R.b, .int .i64 R.c, .string R.pre, .slice ao_w0 L_w0 cap_w0] 31 (0, 0))) := rowKeep rw0_16.out b17
  have c_rw0_17 := Ke.c rw0_17
  have rg_17 : Hid (W17.heap[W7.heap.size]? = some (.cells #[.string R.path, .int .i64 R.a, .int .i64 R.b, .int .i64 R.c, .string R.pre, .slice ao_g L_g cap_g] 31 (0, 0))) := rowKeep rg_16.out b17
  have c_rg_17 := Ke.c rg_17
  have Dh0_17 : Hid (Od W17 lo_h0 hi_h0 (.slice ao_h0 L_h0 cap_h0) s) := od
  have rh0_17 : Hid (W17.heap[g_h0]? = some (.cells #[.string R.path, .int .i64 R.a, .int .i64 R.b, .int .i64 R.c, .string R.pre, .slice ao_h0 L_h0 cap_h0] 31 (0, 0))) := rr
  have c_rh0_17 := Ke.c rh0_17
  clear od rr b17 B16 Dw0_16 Dm_16 a_16 c_a_16 rw0_16 c_rw0_16 rg_16 c_rg_16
  go_wp2_with fail
  refine (eq_entry W17 R (.slice ao_h0 L_h0 cap_h0) (.slice ao_w0 L_w0 cap_w0) s Dh0_17.out.sd Dw0_17.out.sd (by omega)).mono ?_
  rintro e W18 ⟨rfl, b18⟩
  have z18 := b18.size
  have B18 : Hid (Below w.heap.size w W18) := B17.out.trans (b18.mono B17.out.size)
  have Dw0_18 : Hid (Od W18 lo_w0 hi_w0 (.slice ao_w0 L_w0 cap_w0) s) := Od.later Dw0_17.out b18 (by omega)
  have Dm_18 : Hid (Od W18 W6.heap.size W7.heap.size (.slice ao_g L_g cap_g) (mds 1 C)) := Od.later Dm_17.out b18 (by omega)
  have Dh0_18 : Hid (Od W18 lo_h0 hi_h0 (.slice ao_h0 L_h0 cap_h0) s) := Od.later Dh0_17.out b18 (by omega)
  have a_18 : Hid (W18.heap[w.heap.size]? = some (.cells #[.int .i64 q.a, .int .i64 q.b, .int .i64 q.c, .string q.pre] 40 (0, 0))) := rowKeep a_17.out b18
  have rw0_18 : Hid (W18.heap[g_w0]? = some (.cells #[.string R.path, .int .i64 R.a, .int .i64 R.b, .int .i64 R.c, .string R.pre, .slice ao_w0 L_w0 cap_w0] 31 (0, 0))) := rowKeep rw0_17.out b18
  have rg_18 : Hid (W18.heap[W7.heap.size]? = some (.cells #[.string R.path, .int .i64 R.a, .int .i64 R.b, .int .i64 R.c, .string R.pre, .slice ao_g L_g cap_g] 31 (0, 0))) := rowKeep rg_17.out b18
  have rh0_18 : Hid (W18.heap[g_h0]? = some (.cells #[.string R.path, .int .i64 R.a, .int .i64 R.b, .int .i64 R.c, .string R.pre, .slice ao_h0 L_h0 cap_h0] 31 (0, 0))) := rowKeep rh0_17.out b18
  clear b18 Dw0_17 Dm_17 Dh0_17 B17 a_17 c_a_17 rw0_17 c_rw0_17 rg_17 c_rg_17 rh0_17 c_rh0_17
  have c_a_18 := Ke.c a_18
  have c_rw0_18 := Ke.c rw0_18
  have c_rg_18 := Ke.c rg_18
  have c_rh0_18 := Ke.c rh0_18
  have q10 := held_entry W18 R (.slice ao_g L_g cap_g) C 1 Dm_18.out.sd (by omega) (by omega) (by omega)
  rw [HN2.out] at q10
  go_wp2_with fail
  refine (q10).mono ?_
  rintro e W19 ⟨rfl, b19⟩
  have z19 := b19.size
  have B19 : Hid (Below w.heap.size w W19) := B18.out.trans (b19.mono B18.out.size)
  have Dw0_19 : Hid (Od W19 lo_w0 hi_w0 (.slice ao_w0 L_w0 cap_w0) s) := Od.later Dw0_18.out b19 (by omega)
  have Dm_19 : Hid (Od W19 W6.heap.size W7.heap.size (.slice ao_g L_g cap_g) (mds 1 C)) := Od.later Dm_18.out b19 (by omega)
  have Dh0_19 : Hid (Od W19 lo_h0 hi_h0 (.slice ao_h0 L_h0 cap_h0) s) := Od.later Dh0_18.out b19 (by omega)
  have a_19 : Hid (W19.heap[w.heap.size]? = some (.cells #[.int .i64 q.a, .int .i64 q.b, .int .i64 q.c, .string q.pre] 40 (0, 0))) := rowKeep a_18.out b19
  have rw0_19 : Hid (W19.heap[g_w0]? = some (.cells #[.string R.path, .int .i64 R.a, .int .i64 R.b, .int .i64 R.c, .string R.pre, .slice ao_w0 L_w0 cap_w0] 31 (0, 0))) := rowKeep rw0_18.out b19
  have rg_19 : Hid (W19.heap[W7.heap.size]? = some (.cells #[.string R.path, .int .i64 R.a, .int .i64 R.b, .int .i64 R.c, .string R.pre, .slice ao_g L_g cap_g] 31 (0, 0))) := rowKeep rg_18.out b19
  have rh0_19 : Hid (W19.heap[g_h0]? = some (.cells #[.string R.path, .int .i64 R.a, .int .i64 R.b, .int .i64 R.c, .string R.pre, .slice ao_h0 L_h0 cap_h0] 31 (0, 0))) := rowKeep rh0_18.out b19
  clear b19 Dw0_18 Dm_18 Dh0_18 B18 a_18 c_a_18 rw0_18 c_rw0_18 rg_18 c_rg_18 rh0_18 c_rh0_18
  have c_a_19 := Ke.c a_19
  have c_rw0_19 := Ke.c rw0_19
  have c_rg_19 := Ke.c rg_19
  have c_rh0_19 := Ke.c rh0_19
  clear q10
  go_wp2
  go_ret
  exact ⟨rfl, B19.out⟩

end Go.Proofs.Ytpfiaginonnjmaa.Fe

/- Contracts of the specification's digests: turns, the words of a block, a block, and the whole, as plain functions of natural numbers. -/
namespace Go.Proofs.Ytpfiaginonnjmaa.Sha
open Go.RowKit Go.Proofs.Ytpfiaginonnjmaa.Mem Go.Proofs.Ytpfiaginonnjmaa.Laws Go.Proofs.Ytpfiaginonnjmaa.Bytes
set_option linter.unusedVariables false
set_option linter.unusedSimpArgs false

theorem info3 : (Try.prog.info? 3).map (fun i => (i.zero, i.size, i.bytes)) = some (some (.int .i64 0), 1, 8) := by kernel_rfl

/-- a word turned right by n -/
def turn (x n : Nat) : Nat := (x / 2 ^ n ||| x * 2 ^ (32 - n)) % 4294967296

theorem wraps62 (n : Int) (h0 : 0 ≤ n) (h1 : n < 2 ^ 63) : IntKind.i64.wrap n = n := by rw [IntKind.wrap_i64]; omega

theorem or_nat {a b : Nat} (ha : a < 2 ^ 63) (hb : b < 2 ^ 63) : bits .or .i64 (a : Int) (b : Int) = ((a ||| b : Nat) : Int) := (bits_nat .i64 63 (by decide) wraps62 a b ha hb).2
theorem and_nat {a b : Nat} (ha : a < 2 ^ 63) (hb : b < 2 ^ 63) : bits .and .i64 (a : Int) (b : Int) = ((a &&& b : Nat) : Int) := (bits_nat .i64 63 (by decide) wraps62 a b ha hb).1
theorem xor_nat {a b : Nat} (ha : a < 2 ^ 63) (hb : b < 2 ^ 63) : bits .xor .i64 (a : Int) (b : Int) = ((a ^^^ b : Nat) : Int) := by
  have ha' : a % 2 ^ 64 = a := Nat.mod_eq_of_lt (by omega)
  have hb' : b % 2 ^ 64 = b := Nat.mod_eq_of_lt (by omega)
  have e : bits .xor .i64 (a : Int) (b : Int) = IntKind.i64.wrap (((BitVec.ofInt 64 (a : Int) ^^^ BitVec.ofInt 64 (b : Int)).toNat : Nat) : Int) := rfl
  rw [e, BitVec.ofInt_natCast, BitVec.ofInt_natCast, BitVec.toNat_xor, BitVec.toNat_ofNat, BitVec.toNat_ofNat, ha', hb']
  exact wraps62 _ (Int.natCast_nonneg _) (by have := Nat.xor_lt_two_pow ha hb; omega)
theorem mask_nat {a : Nat} (ha : a < 2 ^ 63) : bits .and .i64 (a : Int) 4294967295 = ((a % 4294967296 : Nat) : Int) := by
  have h := and_nat (b := 4294967295) ha (by decide)
  have e : ((4294967295 : Nat) : Int) = 4294967295 := rfl
  rw [e] at h
  rw [h, show (4294967295 : Nat) = 2 ^ 32 - 1 by decide, Nat.and_two_pow_sub_one_eq_mod]

theorem turn_eq (x n : Nat) (hx : x < 4294967296) (hn1 : 1 ≤ n) (hn2 : n ≤ 31) :
    bits .and .i64 (bits .or .i64 ((x : Int) / 2 ^ n) (wrap64 ((x : Int) * 2 ^ (32 - n)))) 4294967295 = ((turn x n : Nat) : Int) := by
  have hp : (2 : Nat) ^ (32 - n) ≤ 2 ^ 31 := Nat.pow_le_pow_right (by decide) (by omega)
  have hxp : x * 2 ^ (32 - n) ≤ 4294967295 * 2 ^ 31 := Nat.mul_le_mul (by omega) hp
  have e1 : (x : Int) / 2 ^ n = ((x / 2 ^ n : Nat) : Int) := by push_cast; rfl
  have e2 : (x : Int) * 2 ^ (32 - n) = ((x * 2 ^ (32 - n) : Nat) : Int) := by push_cast; rfl
  have hd : x / 2 ^ n ≤ x := Nat.div_le_self _ _
  rw [e2, IntWalk.wrap64_in _ (by omega), e1, or_nat (by omega) (by omega), mask_nat (Nat.or_lt_two_pow (by omega) (by omega))]
  rfl

theorem turn_lt (x n : Nat) : turn x n < 4294967296 := Nat.mod_lt _ (by decide)

/-- natural numbers as cells -/
def ns (l : List Nat) : List Value := l.map fun n : Nat => Value.int .i64 (n : Int)
theorem ns_len (l : List Nat) : (ns l).length = l.length := by simp [ns]
theorem ns_app (l r : List Nat) : ns (l ++ r) = ns l ++ ns r := by simp [ns]
theorem ns_one (l : List Nat) : ∀ u ∈ ns l, u.oneCell' = true := by
  intro u hu
  obtain ⟨_, _, rfl⟩ := List.mem_map.1 hu
  rfl

theorem Own.emptyN (w : World) (lo : Nat) (h : lo ≤ w.heap.size) : Own (w.alloc (.cells #[] 3)) lo (w.alloc (.cells #[] 3)).heap.size 3 (.slice (some ⟨w.heap.size, 0, none⟩) 0 0) (ns []) :=
  Own.of (World.ownsRow_lit w #[] 0 h (Nat.zero_le _) rfl)

/-- the byte at j, and the word of the four bytes from 4 i on -/
def nb (ys : List Int) (j : Nat) : Nat := (ys.getD j 0).toNat
def wd (ys : List Int) (i : Nat) : Nat := ((nb ys (4 * i) * 16777216 ||| nb ys (4 * i + 1) * 65536) ||| nb ys (4 * i + 2) * 256) ||| nb ys (4 * i + 3)

theorem nb_lt {ys : List Int} (h : Byt ys) (j : Nat) : nb ys j < 256 := by
  unfold nb
  by_cases hj : j < ys.length
  · have := h (ys[j]) (List.getElem_mem hj)
    simp [List.getD, hj]
    omega
  · simp [List.getD, show ys.length ≤ j by omega]
theorem wd_bits (a b c d : Nat) (ha : a < 256) (hb : b < 256) (hc : c < 256) (hd : d < 256) :
    bits .or .i64 (bits .or .i64 (bits .or .i64 ((a : Int) * 16777216) ((b : Int) * 65536)) ((c : Int) * 256)) (d : Int) = ((((a * 16777216 ||| b * 65536) ||| c * 256) ||| d : Nat) : Int) := by
  have e1 : (a : Int) * 16777216 = ((a * 16777216 : Nat) : Int) := by omega
  have e2 : (b : Int) * 65536 = ((b * 65536 : Nat) : Int) := by omega
  have e3 : (c : Int) * 256 = ((c * 256 : Nat) : Int) := by omega
  have l1 : a * 16777216 ||| b * 65536 < 2 ^ 32 := Nat.or_lt_two_pow (by omega) (by omega)
  have l2 : (a * 16777216 ||| b * 65536) ||| c * 256 < 2 ^ 32 := Nat.or_lt_two_pow l1 (by omega)
  rw [e1, e2, e3, or_nat (by omega) (by omega), or_nat (by omega) (by omega), or_nat (by omega) (by omega)]

theorem wd_lt {ys : List Int} (h : Byt ys) (i : Nat) : wd ys i < 4294967296 := by
  unfold wd
  have h0 := nb_lt h (4 * i)
  have h1 := nb_lt h (4 * i + 1)
  have h2 := nb_lt h (4 * i + 2)
  have h3 := nb_lt h (4 * i + 3)
  have l1 : nb ys (4 * i) * 16777216 ||| nb ys (4 * i + 1) * 65536 < 2 ^ 32 := Nat.or_lt_two_pow (by omega) (by omega)
  have l2 := Nat.or_lt_two_pow l1 (show nb ys (4 * i + 2) * 256 < 2 ^ 32 by omega)
  exact Nat.or_lt_two_pow l2 (by omega)

theorem byte_cell {w : World} {ys : List Int} {b off : Nat} (hby : Byt ys) (h : ∀ j, j < ys.length → w.cell? ⟨b, off + j, none⟩ = (bs ys)[j]?) (j : Nat) (hj : j < ys.length) : w.cell? ⟨b, off + j, none⟩ = some (.int .u8 (nb ys j : Nat)) := by
  rw [h j hj, bs_get]
  have hb := hby (ys[j]) (List.getElem_mem hj)
  simp [nb, List.getD, hj]
  omega

def s0w (x : Nat) : Nat := (turn x 7 ^^^ turn x 18) ^^^ x / 8
def s1w (x : Nat) : Nat := (turn x 17 ^^^ turn x 19) ^^^ x / 1024
/-- the next word behind 16 or more -/
def nxt (l : List Nat) : Nat := (l.getD (l.length - 16) 0 + s0w (l.getD (l.length - 15) 0) + l.getD (l.length - 7) 0 + s1w (l.getD (l.length - 2) 0)) % 4294967296
def ext : Nat → List Nat → List Nat
  | 0, l => l
  | n + 1, l => ext n (l ++ [nxt l])
/-- the 64 words of a block -/
def words (ys : List Int) : List Nat := ext 48 ((List.range 16).map (wd ys))

theorem s0w_lt {x : Nat} (h : x < 4294967296) : s0w x < 4294967296 := by
  unfold s0w
  have h1 : turn x 7 ^^^ turn x 18 < 2 ^ 32 := Nat.xor_lt_two_pow (turn_lt _ _) (turn_lt _ _)
  exact Nat.xor_lt_two_pow h1 (by omega)
theorem s1w_lt {x : Nat} (h : x < 4294967296) : s1w x < 4294967296 := by
  unfold s1w
  have h1 : turn x 17 ^^^ turn x 19 < 2 ^ 32 := Nat.xor_lt_two_pow (turn_lt _ _) (turn_lt _ _)
  exact Nat.xor_lt_two_pow h1 (by omega)
theorem s0w_bits {x : Nat} (h : x < 4294967296) : bits .xor .i64 (bits .xor .i64 ((turn x 7 : Nat) : Int) ((turn x 18 : Nat) : Int)) ((x : Int) / 8) = ((s0w x : Nat) : Int) := by
  have t1 := turn_lt x 7
  have t2 := turn_lt x 18
  have h1 : turn x 7 ^^^ turn x 18 < 2 ^ 32 := Nat.xor_lt_two_pow t1 t2
  have e : (x : Int) / 8 = ((x / 8 : Nat) : Int) := by omega
  rw [e, xor_nat (by omega) (by omega), xor_nat (by omega) (by omega)]
  rfl
theorem s1w_bits {x : Nat} (h : x < 4294967296) : bits .xor .i64 (bits .xor .i64 ((turn x 17 : Nat) : Int) ((turn x 19 : Nat) : Int)) ((x : Int) / 1024) = ((s1w x : Nat) : Int) := by
  have t1 := turn_lt x 17
  have t2 := turn_lt x 19
  have h1 : turn x 17 ^^^ turn x 19 < 2 ^ 32 := Nat.xor_lt_two_pow t1 t2
  have e : (x : Int) / 1024 = ((x / 1024 : Nat) : Int) := by omega
  rw [e, xor_nat (by omega) (by omega), xor_nat (by omega) (by omega)]
  rfl

theorem Own.form {w : World} {lo hi : Nat} {e : TypeId} {v : Value} {cs : List Value} (h : Own w lo hi e v cs) (hp : 0 < cs.length) :
    ∃ g cap, v = .slice (some ⟨g, 0, none⟩) cs.length cap ∧ lo ≤ g ∧ g < hi ∧ cs.length ≤ cap ∧ ∀ j, j < cs.length → w.cell? ⟨g, j, none⟩ = cs[j]? := by
  have hsl := h.sl
  obtain ⟨⟨h1, h2⟩, h3⟩ := h
  rcases h2 with ⟨rfl, h0⟩ | ⟨g, cap, cur, rfl, hb, hg, hnc, hcm, hcs, ht⟩
  · omega
  · refine ⟨g, cap, rfl, hb, h3 g rfl, hnc, ?_⟩
    obtain ⟨ao, cap', he, _, _, hr⟩ := hsl
    obtain ⟨b, off, hao, hcell⟩ := hr hp
    simp only [Value.slice.injEq] at he
    rw [← he.1] at hao
    simp only [Option.some.injEq, Addr.mk.injEq, and_true] at hao
    obtain ⟨rfl, rfl⟩ := hao
    intro j hj
    have := hcell j hj
    rw [Nat.zero_add] at this
    exact this
theorem ns_cell {w : World} {g : Nat} {L : List Nat} (h : ∀ j, j < (ns L).length → w.cell? ⟨g, j, none⟩ = (ns L)[j]?) (j : Nat) (hj : j < L.length) : w.cell? ⟨g, j, none⟩ = some (.int .i64 ((L.getD j 0 : Nat) : Int)) := by
  rw [h j (by rw [ns_len]; exact hj)]
  simp [ns, List.getD, hj]
theorem getD_lt {L : List Nat} (h : ∀ x ∈ L, x < 4294967296) (j : Nat) : L.getD j 0 < 4294967296 := by
  by_cases hj : j < L.length
  · simp [List.getD, hj]; exact h _ (List.getElem_mem hj)
  · simp [List.getD, show L.length ≤ j by omega]

theorem Sl.oneD (w : World) (u : Value) (t : TypeId) : Sl ((w.alloc (.cells #[u] t)).drew) (.slice (some ⟨w.heap.size, 0, none⟩) 1 1) [u] := Sl.one w u t
theorem one_int (x : Int) : ∀ u ∈ [Value.int .i64 x], u.oneCell' = true := by
  intro u hu
  rw [List.mem_singleton] at hu
  rw [hu]
  rfl

end Go.Proofs.Ytpfiaginonnjmaa.Sha

/- Contract of the specification's block: 64 rounds over the words, and the sums with what was before. -/
namespace Go.Proofs.Ytpfiaginonnjmaa.Sha
open Go.RowKit Go.Proofs.Ytpfiaginonnjmaa.Mem Go.Proofs.Ytpfiaginonnjmaa.Laws Go.Proofs.Ytpfiaginonnjmaa.Bytes
set_option linter.unusedVariables false
set_option linter.unusedSimpArgs false

def big1 (e : Nat) : Nat := (turn e 6 ^^^ turn e 11) ^^^ turn e 25
def big0 (a : Nat) : Nat := (turn a 2 ^^^ turn a 13) ^^^ turn a 22
def ch (e f g : Nat) : Nat := (e &&& f) ^^^ ((4294967295 ^^^ e) &&& g)
def maj (a b c : Nat) : Nat := ((a &&& b) ^^^ (a &&& c)) ^^^ (b &&& c)
def t1 (e f g h k x : Nat) : Nat := h + big1 e + ch e f g + k + x
def t2 (a b c : Nat) : Nat := big0 a + maj a b c
def rnd8 (a b c d e f g h k x : Nat) : List Nat := [(t1 e f g h k x + t2 a b c) % 4294967296, a, b, c, (d + t1 e f g h k x) % 4294967296, e, f, g]
def rnds : List Nat → List Nat → List Nat → List Nat
  | k :: ks, x :: xs, [a, b, c, d, e, f, g, h] => rnds ks xs (rnd8 a b c d e f g h k x)
  | _, _, v => v
/-- a block's eight words out of those before -/
def blk (H : List Nat) (ys : List Int) (K : List Nat) : List Nat := List.zipWith (fun x y => (x + y) % 4294967296) (rnds K (words ys) H) H

theorem xl {a b : Nat} (ha : a < 4294967296) (hb : b < 4294967296) : a ^^^ b < 4294967296 := Nat.xor_lt_two_pow (n := 32) ha hb
theorem al {a b : Nat} (hb : b < 4294967296) : a &&& b < 4294967296 := Nat.lt_of_le_of_lt Nat.and_le_right hb
theorem big1_lt (e : Nat) : big1 e < 4294967296 := xl (xl (turn_lt _ _) (turn_lt _ _)) (turn_lt _ _)
theorem big0_lt (a : Nat) : big0 a < 4294967296 := xl (xl (turn_lt _ _) (turn_lt _ _)) (turn_lt _ _)
theorem ch_lt {e f g : Nat} (hf : f < 4294967296) (hg : g < 4294967296) : ch e f g < 4294967296 := xl (al hf) (al hg)
theorem maj_lt {a b c : Nat} (hb : b < 4294967296) (hc : c < 4294967296) : maj a b c < 4294967296 := xl (xl (al hb) (al hc)) (al hc)

theorem xb {a b : Nat} (ha : a < 4294967296) (hb : b < 4294967296) : bits .xor .i64 (a : Int) (b : Int) = ((a ^^^ b : Nat) : Int) := xor_nat (by omega) (by omega)
theorem ab {a b : Nat} (ha : a < 4294967296) (hb : b < 4294967296) : bits .and .i64 (a : Int) (b : Int) = ((a &&& b : Nat) : Int) := and_nat (by omega) (by omega)
theorem big1_bits (e : Nat) : bits .xor .i64 (bits .xor .i64 ((turn e 6 : Nat) : Int) ((turn e 11 : Nat) : Int)) ((turn e 25 : Nat) : Int) = ((big1 e : Nat) : Int) := by
  rw [xb (turn_lt _ _) (turn_lt _ _), xb (xl (turn_lt _ _) (turn_lt _ _)) (turn_lt _ _)]; rfl
theorem big0_bits (a : Nat) : bits .xor .i64 (bits .xor .i64 ((turn a 2 : Nat) : Int) ((turn a 13 : Nat) : Int)) ((turn a 22 : Nat) : Int) = ((big0 a : Nat) : Int) := by
  rw [xb (turn_lt _ _) (turn_lt _ _), xb (xl (turn_lt _ _) (turn_lt _ _)) (turn_lt _ _)]; rfl
theorem ch_bits {e f g : Nat} (he : e < 4294967296) (hf : f < 4294967296) (hg : g < 4294967296) : bits .xor .i64 (bits .and .i64 (e : Int) (f : Int)) (bits .and .i64 (bits .xor .i64 4294967295 (e : Int)) (g : Int)) = ((ch e f g : Nat) : Int) := by
  have e0 : (4294967295 : Int) = ((4294967295 : Nat) : Int) := rfl
  rw [e0, xb (by omega) he, ab he hf, ab (xl (by omega) he) hg, xb (al hf) (al hg)]; rfl
theorem maj_bits {a b c : Nat} (ha : a < 4294967296) (hb : b < 4294967296) (hc : c < 4294967296) : bits .xor .i64 (bits .xor .i64 (bits .and .i64 (a : Int) (b : Int)) (bits .and .i64 (a : Int) (c : Int))) (bits .and .i64 (b : Int) (c : Int)) = ((maj a b c : Nat) : Int) := by
  rw [ab ha hb, ab ha hc, ab hb hc, xb (al hb) (al hc), xb (xl (al hb) (al hc)) (al hc)]; rfl

/-- the cells of eight words -/
def At8 (w : World) (g : Nat) (a b c d e f q h : Nat) : Prop :=
  w.cell? ⟨g, 0, none⟩ = some (.int .i64 (a : Int)) ∧ w.cell? ⟨g, 1, none⟩ = some (.int .i64 (b : Int)) ∧ w.cell? ⟨g, 2, none⟩ = some (.int .i64 (c : Int)) ∧ w.cell? ⟨g, 3, none⟩ = some (.int .i64 (d : Int)) ∧
  w.cell? ⟨g, 4, none⟩ = some (.int .i64 (e : Int)) ∧ w.cell? ⟨g, 5, none⟩ = some (.int .i64 (f : Int)) ∧ w.cell? ⟨g, 6, none⟩ = some (.int .i64 (q : Int)) ∧ w.cell? ⟨g, 7, none⟩ = some (.int .i64 (h : Int))

theorem at8 {w : World} {g : Nat} {a b c d e f q h : Nat} (hc : ∀ j, j < (ns [a, b, c, d, e, f, q, h]).length → w.cell? ⟨g, j, none⟩ = (ns [a, b, c, d, e, f, q, h])[j]?) : At8 w g a b c d e f q h := by
  refine ⟨?_, ?_, ?_, ?_, ?_, ?_, ?_, ?_⟩
  · exact hc 0 (by simp [ns])
  · exact hc 1 (by simp [ns])
  · exact hc 2 (by simp [ns])
  · exact hc 3 (by simp [ns])
  · exact hc 4 (by simp [ns])
  · exact hc 5 (by simp [ns])
  · exact hc 6 (by simp [ns])
  · exact hc 7 (by simp [ns])

/-- ONE ROUND, as the walk meets it: what the new eight words come to. -/
theorem rnd_own {W : World} {lo : Nat} {a b c d e f q h k x : Nat} {z0 z4 : Int} (h0 : z0 = (((t1 e f q h k x + t2 a b c) % 4294967296 : Nat) : Int)) (h4 : z4 = (((d + t1 e f q h k x) % 4294967296 : Nat) : Int)) (hlo : lo ≤ W.heap.size) :
    Own (W.alloc (.cells #[.int .i64 z0, .int .i64 (a : Int), .int .i64 (b : Int), .int .i64 (c : Int), .int .i64 z4, .int .i64 (e : Int), .int .i64 (f : Int), .int .i64 (q : Int)] 3)) lo
      (W.alloc (.cells #[.int .i64 z0, .int .i64 (a : Int), .int .i64 (b : Int), .int .i64 (c : Int), .int .i64 z4, .int .i64 (e : Int), .int .i64 (f : Int), .int .i64 (q : Int)] 3)).heap.size 3 (.slice (some ⟨W.heap.size, 0, none⟩) 8 8) (ns (rnd8 a b c d e f q h k x)) := by
  subst h0
  subst h4
  exact Own.of (World.ownsRow_lit W _ 8 hlo (by unfold maxLen; omega) rfl)

theorem kcell {w : World} {b off : Nat} {L : List Nat} (h : ∀ j, j < (ns L).length → w.cell? ⟨b, off + j, none⟩ = (ns L)[j]?) (j : Nat) (hj : j < L.length) : w.cell? ⟨b, off + j, none⟩ = some (.int .i64 ((L.getD j 0 : Nat) : Int)) := by
  rw [h j (by rw [ns_len]; exact hj)]
  simp [ns, List.getD, hj]
theorem drop_nat {L : List Nat} {k : Nat} (h : k < L.length) : L.drop k = L.getD k 0 :: L.drop (k + 1) := by
  rw [List.drop_eq_getElem_cons h]; simp [List.getD, h]

theorem ext_len (n : Nat) : ∀ l, (ext n l).length = l.length + n := by
  induction n with
  | zero => intro l; rfl
  | succ n ih => intro l; rw [ext, ih]; simp; omega
theorem words_len (ys : List Int) : (words ys).length = 64 := by unfold words; rw [ext_len]; simp
theorem ext_lt (n : Nat) : ∀ l, (∀ x ∈ l, x < 4294967296) → ∀ x ∈ ext n l, x < 4294967296 := by
  induction n with
  | zero => intro l h; exact h
  | succ n ih =>
    intro l h
    rw [ext]
    refine ih _ (fun x hx => ?_)
    rcases List.mem_append.1 hx with hx | hx
    · exact h x hx
    · rw [List.mem_singleton] at hx; rw [hx]; exact Nat.mod_lt _ (by decide)
theorem words_lt {ys : List Int} (h : Byt ys) : ∀ x ∈ words ys, x < 4294967296 := by
  unfold words
  refine ext_lt 48 _ (fun x hx => ?_)
  obtain ⟨j, _, rfl⟩ := List.mem_map.1 hx
  exact wd_lt h j

theorem zip_step (Z H : List Nat) (m : Nat) (hZ : Z.length = 8) (hH : H.length = 8) (hm : m < 8) :
    ((List.zipWith (fun x y => (x + y) % 4294967296) Z H).take m ++ Z.drop m).set m ((Z.getD m 0 + H.getD m 0) % 4294967296) = (List.zipWith (fun x y => (x + y) % 4294967296) Z H).take (m + 1) ++ Z.drop (m + 1) := by
  apply List.ext_getElem?
  intro j
  have hl : ((List.zipWith (fun x y => (x + y) % 4294967296) Z H).take m).length = m := by simp; omega
  have hl2 : ((List.zipWith (fun x y => (x + y) % 4294967296) Z H).take (m + 1)).length = m + 1 := by simp; omega
  by_cases hj : j = m
  · subst hj
    rw [List.getElem?_set_self (by simp; omega), List.getElem?_append_left (by omega), List.getElem?_take, if_pos (by omega), List.getElem?_zipWith]
    simp [List.getD, hZ, hH, hm]
  · rw [List.getElem?_set_ne (by omega)]
    by_cases hlt : j < m
    · rw [List.getElem?_append_left (by omega), List.getElem?_append_left (by omega), List.getElem?_take, if_pos hlt, List.getElem?_take, if_pos (by omega)]
    · rw [List.getElem?_append_right (by omega), List.getElem?_append_right (by omega), hl, hl2, List.getElem?_drop, List.getElem?_drop]
      congr 1
      omega

end Go.Proofs.Ytpfiaginonnjmaa.Sha
