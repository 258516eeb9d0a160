/- Chapter 8: the law FnClashes, over contracts of the landed functions. -/
import Derived.Test.YtpnmhanjibhgoaaDoorCl4
import Derived.Test.YtpnmhanjibhgoaaDoorCl8
import Derived.Test.YtpnmhanjibhgoaaDoorTrL
namespace Go.Proofs.YtpnmhanjibhgoaaDoor.Cl
open Go.RowKit Go.Proofs.YtpnmhanjibhgoaaDoor.Mem Go.Proofs.YtpnmhanjibhgoaaDoor.Laws Go.Proofs.YtpnmhanjibhgoaaDoor.Bytes Go.Proofs.YtpnmhanjibhgoaaDoor.Sha Go.Proofs.YtpnmhanjibhgoaaDoor.Tr Go.Proofs.YtpnmhanjibhgoaaDoor.Draw
set_option linter.unusedVariables false
set_option linter.unusedSimpArgs false

theorem leafT_size (s : ByteArray) : (leafT s).size = s.size + 1 := by unfold leafT; rw [txt_size, List.length_cons, sb_len]
theorem nodeT_size (a b : ByteArray) : (nodeT a b).size = a.size + b.size + 1 := by unfold nodeT; rw [txt_size, List.length_cons, List.length_append, sb_len, sb_len]
theorem headD_size {l : List ByteArray} {n : Nat} (h : ∀ s ∈ l, s.size ≤ n) : (l.headD ⟨#[]⟩).size ≤ n := by
  cases l with
  | nil => exact Nat.zero_le _
  | cons a r => exact h a (by simp)
theorem clash_size (l : List ByteArray) : ∀ (m : List ByteArray) (n : Nat), (∀ s ∈ l, s.size ≤ n) → (∀ s ∈ m, s.size ≤ n) → (clash l m).1.size ≤ n + 65 ∧ (clash l m).2.size ≤ n + 65 := by
  refine lenRec (P := fun l => ∀ (m : List ByteArray) (n : Nat), (∀ s ∈ l, s.size ≤ n) → (∀ s ∈ m, s.size ≤ n) → (clash l m).1.size ≤ n + 65 ∧ (clash l m).2.size ≤ n + 65) ?_ l
  intro l ih m n h1 h2
  rw [clash_if]
  by_cases h : 2 ≤ l.length
  · rw [if_pos h]
    split
    · split
      · exact ih _ (drop_lt h) _ n (fun s hs => h1 s (List.mem_of_mem_drop hs)) (fun s hs => h2 s (List.mem_of_mem_drop hs))
      · exact ih _ (take_lt h) _ n (fun s hs => h1 s (List.mem_of_mem_take hs)) (fun s hs => h2 s (List.mem_of_mem_take hs))
    · simp only [nodeT_size, root_size]
      omega
  · rw [if_neg h]
    simp only [leafT_size]
    have := headD_size h1
    have := headD_size h2
    omega
theorem ext_all {s : ByteArray} (h : s.size = 32) : s.extract 0 32 = s := by
  rw [← h]
  exact ByteArray.extract_zero_size
theorem ext_none (s : ByteArray) : s.extract 0 0 = ByteArray.empty := by
  apply ByteArray.ext
  simp
/-- what the law asks of two unlike lists -/
theorem clash_facts {l m : List ByteArray} (hlm : l.length = m.length) (hne : l ≠ m) :
    (clash l m).1 ≠ (clash l m).2 ∧ isClash (clash l m).1 (clash l m).2 32 = eq6 (root l) (root m) ∧ isClash (clash l m).1 (clash l m).2 0 = true ∧ isClash (clash l m).1 (clash l m).2 33 = false := by
  obtain ⟨h1, h2⟩ := clash_ok l m hlm hne
  refine ⟨h1, ?_, ?_, ?_⟩
  · have e := isClash_yes (j := 32) (by omega) h1
    rw [ext_all (dg_size _), ext_all (dg_size _)] at e
    refine e.trans ?_
    rw [Bool.eq_iff_iff, eq6_iff, eq6_iff]
    exact h2
  · have e := isClash_yes (j := 0) (by omega) h1
    rw [ext_none, ext_none] at e
    refine e.trans ?_
    rw [eq6_iff]
  · exact isClash_no (fun h => by omega)

set_option maxRecDepth 1000000 in
set_option maxHeartbeats 8000000 in
theorem clashes8 (w : World) (v0 : Value) (xs0 : List Int) (h0 : Sl w v0 (bs xs0)) (y0 : Byt xs0) (m0 : xs0.length ≤ maxLen)
    (iCl : ∀ W, Below w.heap.size w W → ∀ (v v' : Value) (l m : List ByteArray), Sl W v (ss l) → Sl W v' (ss m) → l.length ≤ 1000 → m.length ≤ 1000 → (∀ s ∈ l, s.size ≤ 1000) → (∀ s ∈ m, s.size ≤ 1000) → Calls Tryd.prog 8 #[v, v'] W fun e w' => e = .returned (.tuple #[.string (clashOf l m).1, .string (clashOf l m).2.1, .bool (clashOf l m).2.2]) ∧ Below W.heap.size W w')
    (iRoot : ∀ W, Below w.heap.size w W → ∀ (v' : Value) (l : List ByteArray), Sl W v' (ss l) → l.length ≤ 1000 → (∀ s ∈ l, s.size ≤ 1000) → Calls Tryd.prog 10 #[v'] W fun e w' => e = .returned (.string (rootOf l)) ∧ Below W.heap.size W w')
    (iIs : ∀ W, Below w.heap.size w W → ∀ (a b : ByteArray) (k : Int), a.size ≤ 1000 → b.size ≤ 1000 → Calls Tryd.prog 12 #[.string a, .string b, .int .i64 k] W fun e w' => e = .returned (.bool (isClash a b k)) ∧ Below W.heap.size W w') :
    Calls Tryd.prog 3 #[v0] w fun e w' => e = .returned (.bool true) ∧ Below w.heap.size w w' := by
  have hs : Hid (Sl w v0 (bs xs0)) := h0
  have hby := y0
  obtain ⟨ao0, cap0, rfl, -, -, -⟩ := h0
  rw [Mem.bs_len] at hs ⊢
  clear m0 y0
  by_cases hbig : 1048576 < xs0.length
  · have qb := big_yes w ao0 xs0.length cap0 hbig
    clear iRoot iCl iIs
    go_enter Tryd.func3, Tryd.ntmps3
    go_wp2_with fail
    refine qb.mono ?_
    rintro e w1 ⟨rfl, rfl⟩
    go_wp2
    go_ret
    exact ⟨rfl, Below.refl _ _⟩
  have qb := big_no w ao0 xs0.length cap0 hbig
  have qd := drawClash_any w _ xs0 hs.out hby (by omega)
  go_enter Tryd.func3, Tryd.ntmps3
  go_wp2_with fail
  refine qb.mono ?_
  rintro e w1 ⟨rfl, rfl⟩
  go_wp2_with fail
  refine qd.mono ?_
  rintro e W1 ⟨va, vb, l, m, rfl, hl, hm, hz1, hz2, S1, S2, B1⟩
  clear qb qd
  have q2 := iCl W1 B1 va vb l m S1 S2 (by omega) (by omega) (fun s h => Nat.le_trans (hz1 s h) (by omega)) (fun s h => Nat.le_trans (hz2 s h) (by omega))
  have qr1 : ∀ W, Below W1.heap.size W1 W → _ := fun W hW => iRoot W (B1.trans (hW.mono B1.size)) va l (S1.later hW) (by omega) (fun s h => Nat.le_trans (hz1 s h) (by omega))
  have qr2 : ∀ W, Below W1.heap.size W1 W → _ := fun W hW => iRoot W (B1.trans (hW.mono B1.size)) vb m (S2.later hW) (by omega) (fun s h => Nat.le_trans (hz2 s h) (by omega))
  have e1 : rootOf l = root l := rootOf_small (by omega)
  have e2 : rootOf m = root m := rootOf_small (by omega)
  rw [e1] at qr1
  rw [e2] at qr2
  have zr1 := root_size l
  have qs0 : ∀ (t : Bool), (t = true ↔ l = m) → ∀ W, Below W1.heap.size W1 W → _ := fun t ht W hW => same_law W va vb l m t ht (S1.later hW) (S2.later hW) (by omega) (by omega)
  obtain ⟨ao, cap, hv, hc1⟩ := Sl.form S1
  obtain ⟨bo, cbp, hv', hc2⟩ := Sl.form S2
  rw [ss_len] at hv hv' hc1 hc2
  have L1 : Below W1.heap.size W1 W1 := Below.refl _ _
  by_cases hlm : l.length = m.length
  · have dn : ((l.length : Int) == (m.length : Int)) = true := by rw [beq_iff_eq]; omega
    have dnn : ((l.length : Int) != (m.length : Int)) = false := by rw [bne, dn]; rfl
    have hlm1 : l.length ≤ m.length := by omega
    have hlm2 : m.length ≤ l.length := by omega
    by_cases hne : l = m
    · have qs := qs0 true ⟨fun _ => hne, fun _ => rfl⟩
      rw [clashOf_no (fun h => h.2.2 hne)] at q2
      obtain ⟨x, hx⟩ : ∃ x, root l = x := ⟨_, rfl⟩
      rw [hx] at qr1 zr1
      have zr2 : (x.size : Int) = 32 := by omega
      subst hv hv'
      clear qr2 qs0 S1 S2 hlm hne hx e1 e2 hz1 hz2 iRoot iCl
      go_wp2_with fail
      refine q2.mono ?_
      rintro e W2 ⟨rfl, b2⟩
      have L2 : Below W1.heap.size W1 W2 := b2
      have B2 : Below w.heap.size w W2 := B1.trans (b2.mono B1.size)
      clear q2 b2
      go_wp2_with fail
      refine (qs W2 L2).mono ?_
      rintro e W3 ⟨rfl, b3, _⟩
      have b3 : Below W2.heap.size W2 W3 := b3 _
      have L3 : Below W1.heap.size W1 W3 := L2.trans (b3.mono L2.size)
      have B3 : Below w.heap.size w W3 := B1.trans (L3.mono B1.size)
      clear b3
      go_wp2_with fail
      refine (drawIs_any W3 _ xs0 (hs.out.later B3) hby (by omega)).mono ?_
      rintro e W4 ⟨a, b, kk, rfl, za, zb, b4⟩
      have L4 : Below W1.heap.size W1 W4 := L3.trans (b4.mono L3.size)
      have B4 : Below w.heap.size w W4 := B1.trans (L4.mono B1.size)
      clear b4
      have qi1 : ∀ W, Below w.heap.size w W → _ := fun W hW => iIs W hW a b kk (by omega) (by omega)
      have qi2 : ∀ W, _ := fun W => isClash_spec W a b kk (by omega) (by omega)
      obtain ⟨t, ht⟩ : ∃ t, isClash a b kk = t := ⟨_, rfl⟩
      simp only [ht] at qi1 qi2
      have nokt : (t != t) = false := by simp
      clear ht
      go_wp2_with fail
      refine (qi1 W4 B4).mono ?_
      rintro e W5 ⟨rfl, b5⟩
      have L5 : Below W1.heap.size W1 W5 := L4.trans (b5.mono L4.size)
      have B5 : Below w.heap.size w W5 := B1.trans (L5.mono B1.size)
      clear b5
      go_wp2_with fail
      refine (qi2 W5).mono ?_
      rintro e W6 ⟨rfl, b6⟩
      have L6 : Below W1.heap.size W1 W6 := L5.trans (b6.mono L5.size)
      have B6 : Below w.heap.size w W6 := B1.trans (L6.mono B1.size)
      clear b6
      go_wp2_with fail
      refine (qr1 W6 L6).mono ?_
      rintro e W7 ⟨rfl, b7⟩
      have L7 : Below W1.heap.size W1 W7 := L6.trans (b7.mono L6.size)
      have B7 : Below w.heap.size w W7 := B1.trans (L7.mono B1.size)
      clear b7
      go_wp2_with fail
      refine (qs W7 L7).mono ?_
      rintro e W8 ⟨rfl, b8, _⟩
      have b8 : Below W7.heap.size W7 W8 := b8 _
      have L8 : Below W1.heap.size W1 W8 := L7.trans (b8.mono L7.size)
      have B8 : Below w.heap.size w W8 := B1.trans (L8.mono B1.size)
      clear b8
      go_wp2
      go_ret
      exact ⟨rfl, B8⟩
    · have qs := qs0 false ⟨fun h => (by cases h), fun h => absurd h hne⟩
      obtain ⟨f1, f2, f3, f4⟩ := clash_facts hlm hne
      obtain ⟨zx, zy⟩ := clash_size l m 5 hz1 hz2
      rw [clashOf_yes ⟨hlm, by omega, hne⟩] at q2
      have qc32 : ∀ W, Below w.heap.size w W → _ := fun W hW => iIs W hW (clash l m).1 (clash l m).2 32 (by omega) (by omega)
      have qc0 : ∀ W, Below w.heap.size w W → _ := fun W hW => iIs W hW (clash l m).1 (clash l m).2 0 (by omega) (by omega)
      have qc33 : ∀ W, Below w.heap.size w W → _ := fun W hW => iIs W hW (clash l m).1 (clash l m).2 33 (by omega) (by omega)
      rw [f2] at qc32
      rw [f3] at qc0
      rw [f4] at qc33
      obtain ⟨p, hp⟩ : ∃ p, (clash l m).1 = p := ⟨_, rfl⟩
      obtain ⟨q, hq⟩ : ∃ p, (clash l m).2 = p := ⟨_, rfl⟩
      obtain ⟨x, hx⟩ : ∃ x, root l = x := ⟨_, rfl⟩
      obtain ⟨y, hy⟩ : ∃ x, root m = x := ⟨_, rfl⟩
      simp only [hp, hq, hx, hy] at *
      obtain ⟨u, hu⟩ : ∃ u, (x.toList == y.toList) = u := ⟨_, rfl⟩
      have hu' : eq6 x y = u := hu
      rw [hu'] at q2 qc32
      have dpq := beq_no f1
      have noku : (u != u) = false := by simp
      have noku2 : (u == u) = true := by simp
      have zr2 : (x.size : Int) = 32 := by omega
      subst hv hv'
      clear qs0 S1 S2 hlm hne hx hy hp hq f1 f2 f3 f4 e1 e2 hz1 hz2 iRoot iCl hu' zx zy
      go_wp2_with fail
      refine q2.mono ?_
      rintro e W2 ⟨rfl, b2⟩
      have L2 : Below W1.heap.size W1 W2 := b2
      have B2 : Below w.heap.size w W2 := B1.trans (b2.mono B1.size)
      clear q2 b2
      go_wp2_with fail
      refine (qs W2 L2).mono ?_
      rintro e W3 ⟨rfl, b3, _⟩
      have b3 : Below W2.heap.size W2 W3 := b3 _
      have L3 : Below W1.heap.size W1 W3 := L2.trans (b3.mono L2.size)
      have B3 : Below w.heap.size w W3 := B1.trans (L3.mono B1.size)
      clear b3
      go_wp2_with fail
      refine (qr1 W3 L3).mono ?_
      rintro e W4 ⟨rfl, b4⟩
      have L4 : Below W1.heap.size W1 W4 := L3.trans (b4.mono L3.size)
      have B4 : Below w.heap.size w W4 := B1.trans (L4.mono B1.size)
      clear b4
      go_wp2_with fail
      refine (qr2 W4 L4).mono ?_
      rintro e W5 ⟨rfl, b5⟩
      have L5 : Below W1.heap.size W1 W5 := L4.trans (b5.mono L4.size)
      have B5 : Below w.heap.size w W5 := B1.trans (L5.mono B1.size)
      clear b5
      go_wp2_with fail
      refine (drawIs_any W5 _ xs0 (hs.out.later B5) hby (by omega)).mono ?_
      rintro e W6 ⟨a, b, kk, rfl, za, zb, b6⟩
      have L6 : Below W1.heap.size W1 W6 := L5.trans (b6.mono L5.size)
      have B6 : Below w.heap.size w W6 := B1.trans (L6.mono B1.size)
      clear b6
      have qi1 : ∀ W, Below w.heap.size w W → _ := fun W hW => iIs W hW a b kk (by omega) (by omega)
      have qi2 : ∀ W, _ := fun W => isClash_spec W a b kk (by omega) (by omega)
      obtain ⟨t, ht⟩ : ∃ t, isClash a b kk = t := ⟨_, rfl⟩
      simp only [ht] at qi1 qi2
      have nokt : (t != t) = false := by simp
      clear ht
      go_wp2_with fail
      refine (qi1 W6 B6).mono ?_
      rintro e W7 ⟨rfl, b7⟩
      have L7 : Below W1.heap.size W1 W7 := L6.trans (b7.mono L6.size)
      have B7 : Below w.heap.size w W7 := B1.trans (L7.mono B1.size)
      clear b7
      go_wp2_with fail
      refine (qi2 W7).mono ?_
      rintro e W8 ⟨rfl, b8⟩
      have L8 : Below W1.heap.size W1 W8 := L7.trans (b8.mono L7.size)
      have B8 : Below w.heap.size w W8 := B1.trans (L8.mono B1.size)
      clear b8
      go_wp2_with fail
      refine (qr1 W8 L8).mono ?_
      rintro e W9 ⟨rfl, b9⟩
      have L9 : Below W1.heap.size W1 W9 := L8.trans (b9.mono L8.size)
      have B9 : Below w.heap.size w W9 := B1.trans (L9.mono B1.size)
      clear b9
      go_wp2_with fail
      refine (qs W9 L9).mono ?_
      rintro e W10 ⟨rfl, b10, _⟩
      have b10 : Below W9.heap.size W9 W10 := b10 _
      have L10 : Below W1.heap.size W1 W10 := L9.trans (b10.mono L9.size)
      have B10 : Below w.heap.size w W10 := B1.trans (L10.mono B1.size)
      clear b10
      clear qi1 qi2 qs qr1 qr2
      go_wp2_with fail
      refine (qc32 W10 B10).mono ?_
      rintro e W11 ⟨rfl, b11⟩
      have L11 : Below W1.heap.size W1 W11 := L10.trans (b11.mono L10.size)
      have B11 : Below w.heap.size w W11 := B1.trans (L11.mono B1.size)
      clear b11
      go_wp2_with fail
      refine (qc0 W11 B11).mono ?_
      rintro e W12 ⟨rfl, b12⟩
      have L12 : Below W1.heap.size W1 W12 := L11.trans (b12.mono L11.size)
      have B12 : Below w.heap.size w W12 := B1.trans (L12.mono B1.size)
      clear b12
      go_wp2_with fail
      refine (qc33 W12 B12).mono ?_
      rintro e W13 ⟨rfl, b13⟩
      have L13 : Below W1.heap.size W1 W13 := L12.trans (b13.mono L12.size)
      have B13 : Below w.heap.size w W13 := B1.trans (L13.mono B1.size)
      clear b13
      go_wp2
      go_ret
      exact ⟨rfl, B13⟩
  · have dn : ((l.length : Int) == (m.length : Int)) = false := by rw [beq_eq_false_iff_ne]; omega
    have dnn : ((l.length : Int) != (m.length : Int)) = true := by rw [bne, dn]; rfl
    have hlm3 : ¬ (l.length : Int) = (m.length : Int) := by omega
    rw [clashOf_no (fun h => hlm h.1)] at q2
    obtain ⟨x, hx⟩ : ∃ x, root l = x := ⟨_, rfl⟩
    rw [hx] at qr1 zr1
    have zr2 : (x.size : Int) = 32 := by omega
    subst hv hv'
    clear qr2 qs0 S1 S2 hlm hx e1 e2 hz1 hz2 iRoot iCl
    go_wp2_with fail
    refine q2.mono ?_
    rintro e W2 ⟨rfl, b2⟩
    have L2 : Below W1.heap.size W1 W2 := b2
    have B2 : Below w.heap.size w W2 := B1.trans (b2.mono B1.size)
    clear q2 b2
    go_wp2_with fail
    refine (drawIs_any W2 _ xs0 (hs.out.later B2) hby (by omega)).mono ?_
    rintro e W3 ⟨a, b, kk, rfl, za, zb, b3⟩
    have L3 : Below W1.heap.size W1 W3 := L2.trans (b3.mono L2.size)
    have B3 : Below w.heap.size w W3 := B1.trans (L3.mono B1.size)
    clear b3
    have qi1 : ∀ W, Below w.heap.size w W → _ := fun W hW => iIs W hW a b kk (by omega) (by omega)
    have qi2 : ∀ W, _ := fun W => isClash_spec W a b kk (by omega) (by omega)
    obtain ⟨t, ht⟩ : ∃ t, isClash a b kk = t := ⟨_, rfl⟩
    simp only [ht] at qi1 qi2
    have nokt : (t != t) = false := by simp
    clear ht
    go_wp2_with fail
    refine (qi1 W3 B3).mono ?_
    rintro e W4 ⟨rfl, b4⟩
    have L4 : Below W1.heap.size W1 W4 := L3.trans (b4.mono L3.size)
    have B4 : Below w.heap.size w W4 := B1.trans (L4.mono B1.size)
    clear b4
    go_wp2_with fail
    refine (qi2 W4).mono ?_
    rintro e W5 ⟨rfl, b5⟩
    have L5 : Below W1.heap.size W1 W5 := L4.trans (b5.mono L4.size)
    have B5 : Below w.heap.size w W5 := B1.trans (L5.mono B1.size)
    clear b5
    go_wp2_with fail
    refine (qr1 W5 L5).mono ?_
    rintro e W6 ⟨rfl, b6⟩
    have L6 : Below W1.heap.size W1 W6 := L5.trans (b6.mono L5.size)
    have B6 : Below w.heap.size w W6 := B1.trans (L6.mono B1.size)
    clear b6
    go_wp2
    go_ret
    exact ⟨rfl, B6⟩

end Go.Proofs.YtpnmhanjibhgoaaDoor.Cl
