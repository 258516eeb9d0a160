/- Texts in one: SrO. -/
import Derived.Test.YtfpaichdkddglaaGreatDoorPk13
import Derived.Test.YtfpaichdkddglaaGreatDoorPk14
import Derived.Test.YtfpaichdkddglaaGreatDoorPk10
import Derived.Test.YtfpaichdkddglaaGreatDoorPk12
import Derived.Deep.DeepCutAuto
namespace Go.Proofs.YtfpaichdkddglaaGreatDoor.Sr
open Go.RowKit Go.Proofs.YtfpaichdkddglaaGreatDoor.Mem Go.Proofs.YtfpaichdkddglaaGreatDoor.Laws Go.Proofs.YtfpaichdkddglaaGreatDoor.Bytes Go.Proofs.YtfpaichdkddglaaGreatDoor.Sha Go.Proofs.YtfpaichdkddglaaGreatDoor.Tr Go.Proofs.YtfpaichdkddglaaGreatDoor.Draw Go.Proofs.YtfpaichdkddglaaGreatDoor.He Go.Proofs.YtfpaichdkddglaaGreatDoor.Lg
set_option linter.unusedVariables false
set_option linter.unusedSimpArgs false
theorem body_small9 {h : Hd} {x : List ByteArray} (hh : h.r.size ≤ 32) (hx : x.length ≤ 9) (hz : ∀ s ∈ x, s.size ≤ 3) : (body h x).length ≤ 10000 := by
 have h9 := body_len h x
 have ht : ∀ l : List ByteArray, (∀ s ∈ l, s.size ≤ 3) → Puts.tot l ≤ 3 * l.length := by
  intro l
  induction l with
  | nil => intro _; exact Nat.le_refl _
  | cons a r ih =>
   intro hl
   have h1 := hl a (List.mem_cons_self ..)
   have h2 := ih (fun s hs => hl s (List.mem_cons_of_mem _ hs))
   simp only [Puts.tot, List.length_cons]
   omega
 have := ht x hz
 omega
theorem field_log (a b c : Value) (W : World) : (Instr.field 31 (.agg #[a, b, c]) 0).run Tryz.prog W = .ok a W := by kernel_rfl
theorem ok_new : storeOk new12 = true := by
 unfold storeOk new12
 simp only
 rw [logOk_of (by simp)]
 simp [replay, replayF]
theorem new_all {l : List ByteArray} (h1 : 1 ≤ l.length) (h9 : l.length ≤ 9) (hz : ∀ s ∈ l, s.size ≤ 3) :
  extend [] (headOf []) [headOf l] (headOf l) l = (l, headOf l, 0) ∧ commit new12 [headOf l] (headOf l) l = (⟨l, headOf l, put (headOf l) l, 0⟩, 0) ∧ storeOk ⟨l, headOf l, put (headOf l) l, 0⟩ = true ∧ (put (headOf l) l).length ≤ 20000 := by
 have hsg : signed [headOf l] (headOf l) = true := by unfold signed; simp [(eqH_iff _ _).2]
 have hb := body_small9 (headOf_size l) h9 hz
 have hp : (put (headOf l) l).length ≤ 20000 := by have := put_len (headOf l) l; omega
 have e1 := extend_of (l := []) (x := l) (hd := headOf []) (t := [headOf l]) (logOk_of (by simp)) h1 (by simp; omega) (by simpa using hsg)
 have e2 := commit1_of (st := new12) (x := l) (t := [headOf l]) (logOk_of (by simp [new12])) h1 (by simp [new12]; omega) (by simpa [new12] using hsg)
 simp only [List.nil_append] at e1
 simp only [new12, List.nil_append] at e2
 have e3 : commit new12 [headOf l] (headOf l) l = (⟨l, headOf l, put (headOf l) l, 0⟩, 0) := by
  unfold commit
  rw [if_pos ⟨ok_new, by simp [new12]; omega⟩]
  exact e2
 refine ⟨e1, e3, ?_, hp⟩
 have := (commit_ok (st := new12) (t := [headOf l]) (h := headOf l) (x := l) (by intro y hy; cases hy) (by rw [e3])).1
 rw [e3] at this
 exact this
set_option maxRecDepth 1000000 in
set_option maxHeartbeats 16000000 in
theorem new12_law (w : World) (v0 : Value) (xs0 : List Int) (h0 : Sl w v0 (bs xs0)) (y0 : Byt xs0) (m0 : xs0.length ≤ maxLen)
  (iHd : ∀ W, Below w.heap.size w W → ∀ (v' : Value) (l : List ByteArray), Sl W v' (ss l) → l.length ≤ 1000 → (∀ s ∈ l, s.size ≤ 1000) → Calls Tryz.prog 8 #[v'] W fun e w' => e = .returned (.agg #[.int .i64 (headOf l).n, .string (headOf l).r]) ∧ Below W.heap.size W w')
  (iNew : ∀ W, Below w.heap.size w W → Calls Tryz.prog 10 #[] W fun e w' => ∃ v', e = .returned (.agg #[v', .int .i64 (headOf []).n, .string (headOf []).r]) ∧ Own w' W.heap.size w'.heap.size 9 v' (ss []) ∧ Below W.heap.size W w')
  (iExt : ∀ W, Below w.heap.size w W → ∀ (v1 v2 v3 : Value) (l x : List ByteArray) (hd h : Hd) (t : List Hd), Sl W v1 (ss l) → Sh W v2 t → Sl W v3 (ss x) → l.length ≤ 1000 → (∀ s ∈ l, s.size ≤ 1000) → hd.r.size ≤ 1000 → t.length ≤ 1000 → (∀ n ∈ t, n.r.size ≤ 1000) → h.r.size ≤ 1000 → x.length ≤ 1000 → (∀ s ∈ x, s.size ≤ 1000) → Calls Tryz.prog 9 #[.agg #[v1, .int .i64 hd.n, .string hd.r], v2, .agg #[.int .i64 h.n, .string h.r], v3] W fun e w' => ∃ v'', e = .returned (.tuple #[.agg #[v'', .int .i64 (extend l hd t h x).2.1.n, .string (extend l hd t h x).2.1.r], .int .i64 (extend l hd t h x).2.2]) ∧ Own w' W.heap.size w'.heap.size 9 v'' (ss (extend l hd t h x).1) ∧ Below W.heap.size W w')
  (iSNew : ∀ W, Below w.heap.size w W → Calls Tryz.prog 12 #[] W fun e w' => ∃ v' vb', e = .returned (.agg #[v', .int .i64 (headOf []).n, .string (headOf []).r, vb', .int .i64 0]) ∧ Own w' W.heap.size w'.heap.size 9 v' (ss []) ∧ Own w' W.heap.size w'.heap.size 5 vb' (bs []) ∧ Below W.heap.size W w')
  (iCom : ∀ W, Below w.heap.size w W → ∀ (v1 v2 v3 v4 : Value) (st : Sto) (t : List Hd) (hd : Hd) (x : List ByteArray), Sl W v1 (ss st.l) → Sl W v2 (bs st.b) → Byt st.b → Sh W v3 t → Sl W v4 (ss x) → st.l.length ≤ 1000 → st.b.length ≤ 50000 → (∀ s ∈ st.l, s.size ≤ 1000) → st.h.r.size ≤ 1000 → t.length ≤ 1000 → (∀ n ∈ t, n.r.size ≤ 1000) → hd.r.size ≤ 1000 → x.length ≤ 1000 → (∀ s ∈ x, s.size ≤ 1000) → Calls Tryz.prog 11 #[.agg #[v1, .int .i64 st.h.n, .string st.h.r, v2, .int .i64 st.s], v3, .agg #[.int .i64 hd.n, .string hd.r], v4] W fun e w' => ∃ u ub, e = .returned (.tuple #[.agg #[u, .int .i64 (commit st t hd x).1.h.n, .string (commit st t hd x).1.h.r, ub, .int .i64 (commit st t hd x).1.s], .int .i64 (commit st t hd x).2]) ∧ Own w' W.heap.size w'.heap.size 9 u (ss (commit st t hd x).1.l) ∧ Own w' W.heap.size w'.heap.size 5 ub (bs (commit st t hd x).1.b) ∧ Below W.heap.size W w')
  (iLOk : ∀ W, Below w.heap.size w W → ∀ (v' : Value) (l : List ByteArray) (h : Hd), Sl W v' (ss l) → l.length ≤ 1000 → (∀ s ∈ l, s.size ≤ 1000) → h.r.size ≤ 1000 → Calls Tryz.prog 13 #[.agg #[v', .int .i64 h.n, .string h.r]] W fun e w' => e = .returned (.bool (logOk l h)) ∧ Below W.heap.size W w')
  (iSOk : ∀ W, Below w.heap.size w W → ∀ (v1 v2 : Value) (st : Sto), Sl W v1 (ss st.l) → Sl W v2 (bs st.b) → Byt st.b → st.l.length ≤ 1000 → st.b.length ≤ 100000 → (∀ s ∈ st.l, s.size ≤ 1000) → st.h.r.size ≤ 1000 → Calls Tryz.prog 15 #[.agg #[v1, .int .i64 st.h.n, .string st.h.r, v2, .int .i64 st.s]] W fun e w' => e = .returned (.bool (storeOk st)) ∧ Below W.heap.size W w') :
  Calls Tryz.prog 3 #[v0] w fun e w' => e = .returned (.bool true) ∧ Below w.heap.size w w' := by
 have hs := h0
 have hby := y0
 obtain ⟨ao0, cap0, rfl, -, -, -⟩ := h0
 rw [Mem.bs_len] at hs ⊢
 clear m0 y0
 by_cases hbig : 1048576 < xs0.length
 ·
  have qb := big_yes w ao0 xs0.length cap0 hbig
  clear iHd iNew iExt iSNew iCom iLOk iSOk
  go_enter Tryz.func3, Tryz.ntmps3
  go_wp2_with fail
  refine qb.mono ?_
  rintro e w1 ⟨rfl, rfl⟩
  go_wp2
  go_ret
  exact ⟨rfl, Below.refl _ _⟩
 have qb := big_no w ao0 xs0.length cap0 hbig
 have qd : ∀ W, Below w.heap.size w W → _ := fun W hW => leaves_any W _ xs0 (hs.later hW) hby (by omega)
 have HS : Hid (Sl w (.slice ao0 xs0.length cap0) (bs xs0)) := hs
 clear hbig hs hby
 have B0 : Hid (Below w.heap.size w w) := Below.refl _ _
 have hfd := field_log
 go_enter Tryz.func3, Tryz.ntmps3
 go_wp2_with fail
 refine qb.mono ?_
 rintro e W_ ⟨rfl, hW_⟩
 subst hW_
 clear qb
 go_wp2_with fail
 refine (qd w B0.out).mono ?_
 rintro e W1 ⟨v_l, l, i, rfl, hl1, hl9, hi, hls, o_l1, b1⟩
 obtain ⟨ao_l, L_l, cap_l, rfl, hL_l, hM_l⟩ := o_l1.form
 have o_l1 : Hid (Own W1 w.heap.size W1.heap.size 9 (.slice ao_l L_l cap_l) (ss l)) := o_l1
 clear hL_l hM_l
 have z1 : w.heap.size ≤ W1.heap.size := b1.size
 have B1 : Hid (Below w.heap.size w W1) := B0.out.trans (b1.mono B0.out.size)
 obtain ⟨a1, a2, a3, a4⟩ := new_all hl1 hl9 hls
 have hhs := headOf_size l
 have hn0 := headOf_size []
 have hlk : logOk [] (headOf []) = true := logOk_of (by simp)
 have hs1 : ∀ s ∈ l, s.size ≤ 1000 := fun s hs => by have := hls s hs; omega
 have q1 : ∀ W v1, Below w.heap.size w W → Sl W v1 (ss l) → _ := fun W v1 hW h1 => iHd W hW v1 l h1 (by omega) hs1
 have q3 : ∀ W v1 v2 v3, Below w.heap.size w W → Sl W v1 (ss []) → Sh W v2 [headOf l] → Sl W v3 (ss l) → _ := fun W v1 v2 v3 hW h1 h2 h3 => iExt W hW v1 v2 v3 [] l (headOf []) (headOf l) [headOf l] h1 h2 h3 (by simp) (by simp) (by omega) (by simp) (by simp; omega) (by omega) (by omega) hs1
 have q5 : ∀ W v1 v2 v3 v4, Below w.heap.size w W → Sl W v1 (ss []) → Sl W v2 (bs []) → Sh W v3 [headOf l] → Sl W v4 (ss l) → _ := fun W v1 v2 v3 v4 hW h1 h2 h3 h4 => iCom W hW v1 v2 v3 v4 new12 [headOf l] (headOf l) l h1 h2 (by intro y hy; cases hy) h3 h4 (by simp [new12]) (by simp [new12]) (by simp [new12]) (by show (headOf []).r.size ≤ 1000; omega) (by simp) (by simp; omega) (by omega) (by omega) hs1
 have q6 : ∀ W v1, Below w.heap.size w W → Sl W v1 (ss []) → _ := fun W v1 hW h1 => iLOk W hW v1 [] (headOf []) h1 (by simp) (by simp) (by omega)
 have q7 : ∀ W v1 v2, Below w.heap.size w W → Sl W v1 (ss l) → Sl W v2 (bs (put (headOf l) l)) → _ := fun W v1 v2 hW h1 h2 => iSOk W hW v1 v2 ⟨l, headOf l, put (headOf l) l, 0⟩ h1 h2 (put_byt _ _) (by simp only; omega) (by simp only; omega) hs1 (by simp only; omega)
 simp only [a1] at q3
 simp only [a2] at q5
 simp only [new12] at q5
 simp only [hlk] at q6
 simp only [a3] at q7
 obtain ⟨M, hM⟩ : ∃ M, headOf l = M := ⟨_, rfl⟩
 obtain ⟨N0, hN⟩ : ∃ M, headOf [] = M := ⟨_, rfl⟩
 obtain ⟨P, hP⟩ : ∃ P, put (headOf l) l = P := ⟨_, rfl⟩
 simp only [hP] at q5 q7 a4
 simp only [hM] at q1 q3 q5 q7
 simp only [hN] at iNew iSNew q3 q5 q6
 clear hM hN hP a1 a2 a3 hhs hn0 hlk iHd iExt iCom iLOk iSOk hs1 hls
 go_wp2_with fail
 refine (q1 W1 _ B1.out o_l1.out.sl).mono ?_
 rintro e W2 ⟨rfl, b2⟩
 have z2 : W1.heap.size ≤ W2.heap.size := b2.size
 have B2 : Hid (Below w.heap.size w W2) := B1.out.trans (b2.mono B1.out.size)
 have o_l2 : Hid (Own W2 (w.heap.size) (W1.heap.size) 9 (.slice ao_l L_l cap_l) (ss l)) := Own.later o_l1.out b2 (by omega)
 clear o_l1
 obtain ⟨W3, HW3, b3, y3, hS3, r_h3⟩ : ∃ X, Hid ((W2.alloc (.cells #[.int .i64 M.n, .string M.r] 28)) = X) ∧ Below W2.heap.size W2 X ∧ W2.heap.size + 1 ≤ X.heap.size ∧ Hid (X.heap.size = W2.heap.size + 1) ∧ Hid (X.heap[W2.heap.size]? = some (.cells #[.int .i64 M.n, .string M.r] 28 (0, 0))) := ⟨_, rfl, ((Below.refl _ _).alloc (Nat.le_refl _) _), by simp, by show _ = _; simp, (by show _ = _; exact alloc_nth1_0 W2 _)⟩
 have z3 : W2.heap.size ≤ W3.heap.size := b3.size
 have B3 : Hid (Below w.heap.size w W3) := B2.out.trans (b3.mono B2.out.size)
 have o_l3 : Hid (Own W3 (w.heap.size) (W1.heap.size) 9 (.slice ao_l L_l cap_l) (ss l)) := Own.later o_l2.out b3 (by omega)
 have c_h3_0 : W3.cell? ⟨W2.heap.size, 0, none⟩ = some (.int .i64 M.n) := row_at r_h3.out 0
 have c_h3_1 : W3.cell? ⟨W2.heap.size, 1, none⟩ = some (.string M.r) := row_at r_h3.out 1
 clear o_l2
 go_upto_region 5 with fail
 rw [HW3.out]
 go_cut [6, 7] (fun s6 s7 wx => ∃ g : Nat, s6 = (.pointer (some ⟨g, 0, none⟩)) ∧ s7 = .int .i64 0 ∧ W3.heap.size ≤ g ∧ g < wx.heap.size ∧ Below W3.heap.size W3 wx ∧ ∃ lo_x hi_x ao_x L_x cap_x, W3.heap.size ≤ lo_x ∧ lo_x ≤ hi_x ∧ hi_x ≤ wx.heap.size ∧ Own wx lo_x hi_x 9 (.slice ao_x L_x cap_x) (ss l) ∧ (g < lo_x ∨ hi_x ≤ g) ∧ wx.heap[g]? = some (.cells #[.slice ao_x L_x cap_x, .int .i64 M.n, .string M.r] 31 (0, 0)))
 case first =>
  have D3 : Hid (Below W3.heap.size W3 W3) := Below.refl _ _
  refine wp_region_held_drew (S := fun w' => w'.cell? ⟨W2.heap.size, 0, none⟩ = some (.int .i64 M.n) ∧ w'.cell? ⟨W2.heap.size, 1, none⟩ = some (.string M.r)) (by kernel_rfl) ⟨c_h3_0, c_h3_1⟩ (fun hHeld => ?_)
  (refine wpAnyH_take (i := 1) (v := ?v1x1) rfl (by kernel_rfl) (by kernel_rfl) (by kernel_rfl) (fun _ _ _ h => h) (Or.inl ⟨by rfl, ?hy1x1⟩) (by assumption) ?rest1x1; case hy1x1 => (intro w hSw; (try dsimp only at hSw); go_split_ands; go_simp; (try with_reducible rfl)))
  try simp only [Act.put, pu1, pu2, pu3, pu4, pu5, pu6]
  (refine wpAnyH_take (i := 3) (v := ?v3x2) rfl (by kernel_rfl) (by kernel_rfl) (by kernel_rfl) (fun _ _ _ h => h) (Or.inl ⟨by rfl, ?hy3x2⟩) (by assumption) ?rest3x2; case hy3x2 => (intro w hSw; (try dsimp only at hSw); go_split_ands; go_simp; (try with_reducible rfl)))
  try simp only [Act.put, pu1, pu2, pu3, pu4, pu5, pu6]
  (refine wpAnyH_take (i := 4) (v := ?v4x3) rfl (by kernel_rfl) (by kernel_rfl) (by kernel_rfl) (fun _ _ _ h => h) (Or.inl ⟨by rfl, ?hy4x3⟩) (by assumption) ?rest4x3; case hy4x3 => (intro w hSw; (try dsimp only at hSw); go_split_ands; go_simp; (try with_reducible rfl)))
  try simp only [Act.put, pu1, pu2, pu3, pu4, pu5, pu6]
  clear r_h3 c_h3_0 c_h3_1
  refine wpAnyH_ready (rs := [0, 2, 9]) (by kernel_rfl) (by simp) ?_
  refine AllReadyH.cons rfl (fun K hK => ?_) (AllReadyH.cons rfl (fun K hK => ?_) (AllReadyH.cons rfl (fun K hK => ?_) AllReadyH.nil))
  ·
   go_simp
   refine (iNew W3.drew (Below.drew B3.out)).mono ?_
   rintro e W4 ⟨v_n, rfl, o_n4, b4⟩
   have b4 : Below W3.heap.size W3 W4 := (Below.drew (Below.refl _ _)).trans b4
   refine hK.out _ _ ⟨(keepR (W := W3) hHeld.1 b4), (keepR (W := W3) hHeld.2 b4)⟩ (fun hHeld => ?_)
   clear hK K
   try simp only [Act.put, pu1, pu2, pu3, pu4, pu5, pu6]
   have o_n4 : Own W4 W3.heap.size W4.heap.size 9 _ _ := o_n4
   obtain ⟨ao_n, L_n, cap_n, rfl, hL_n, hM_n⟩ := o_n4.form
   have o_n4 : Hid (Own W4 W3.heap.size W4.heap.size 9 (.slice ao_n L_n cap_n) (ss [])) := o_n4
   clear hL_n hM_n
   have z4 : W3.heap.size ≤ W4.heap.size := b4.size
   have B4 : Hid (Below w.heap.size w W4) := B3.out.trans (b4.mono B3.out.size)
   have o_l4 : Hid (Own W4 (w.heap.size) (W1.heap.size) 9 (.slice ao_l L_l cap_l) (ss l)) := Own.later o_l3.out b4 (by omega)
   clear o_l3
   have D4 : Hid (Below W3.heap.size W3 W4) := D3.out.trans (b4.mono D3.out.size)
   refine wpAnyH_ready (rs := [2, 9]) (by kernel_rfl) (by simp) ?_
   refine AllReadyH.cons rfl (fun K hK => ?_) (AllReadyH.cons rfl (fun K hK => ?_) AllReadyH.nil)
   ·
    go_simp
    refine hK.out _ _ ⟨(keepR (W := W4) hHeld.1 ((Below.refl _ _).alloc (Nat.le_refl _) _)), (keepR (W := W4) hHeld.2 ((Below.refl _ _).alloc (Nat.le_refl _) _))⟩ (fun hHeld => ?_)
    clear hK K
    try simp only [Act.put, pu1, pu2, pu3, pu4, pu5, pu6]
    obtain ⟨W5, HW5, b5, ff5⟩ : ∃ X, Hid ((W4.alloc (.cells #[.int .i64 M.n, .string M.r] 28)) = X) ∧ Below W4.heap.size W4 X ∧ Hid (Sh X (.slice (some ⟨W4.heap.size, 0, none⟩) 1 1) [M]) := ⟨_, rfl, ((Below.refl _ _).alloc (Nat.le_refl _) _), Sh.one W4 M⟩
    have HHW5 := HW5.out
    rw [HHW5] at hHeld ⊢
    clear HHW5
    have z5 : W4.heap.size ≤ W5.heap.size := b5.size
    have B5 : Hid (Below w.heap.size w W5) := B4.out.trans (b5.mono B4.out.size)
    have o_l5 : Hid (Own W5 (w.heap.size) (W1.heap.size) 9 (.slice ao_l L_l cap_l) (ss l)) := Own.later o_l4.out b5 (by omega)
    have o_n5 : Hid (Own W5 (W3.heap.size) (W4.heap.size) 9 (.slice ao_n L_n cap_n) (ss [])) := Own.later o_n4.out b5 (by omega)
    clear o_l4 o_n4
    have D5 : Hid (Below W3.heap.size W3 W5) := D4.out.trans (b5.mono D4.out.size)
    have f_t5 : Hid (Sh W5 (.slice (some ⟨W4.heap.size, 0, none⟩) 1 1) [M]) := ff5.out
    clear ff5
    refine wpAnyH_ready (rs := [5, 9]) (by kernel_rfl) (by simp) ?_
    refine AllReadyH.cons rfl (fun K hK => ?_) (AllReadyH.cons rfl (fun K hK => ?_) AllReadyH.nil)
    ·
     go_simp
     refine (q3 W5 _ _ _ B5.out o_n5.out.sl f_t5.out o_l5.out.sl).mono ?_
     rintro e W6 ⟨v_x, rfl, o_x6, b6⟩
     refine hK.out _ _ ⟨(keepR (W := W5) hHeld.1 b6), (keepR (W := W5) hHeld.2 b6)⟩ (fun hHeld => ?_)
     clear hK K
     try simp only [Act.put, pu1, pu2, pu3, pu4, pu5, pu6]
     obtain ⟨ao_x, L_x, cap_x, rfl, hL_x, hM_x⟩ := o_x6.form
     have o_x6 : Hid (Own W6 W5.heap.size W6.heap.size 9 (.slice ao_x L_x cap_x) (ss l)) := o_x6
     clear hL_x hM_x
     have z6 : W5.heap.size ≤ W6.heap.size := b6.size
     have B6 : Hid (Below w.heap.size w W6) := B5.out.trans (b6.mono B5.out.size)
     have o_l6 : Hid (Own W6 (w.heap.size) (W1.heap.size) 9 (.slice ao_l L_l cap_l) (ss l)) := Own.later o_l5.out b6 (by omega)
     have o_n6 : Hid (Own W6 (W3.heap.size) (W4.heap.size) 9 (.slice ao_n L_n cap_n) (ss [])) := Own.later o_n5.out b6 (by omega)
     clear o_l5 o_n5
     have f_t6 : Hid (Sh W6 (.slice (some ⟨W4.heap.size, 0, none⟩) 1 1) [M]) := Sh.later f_t5.out b6
     clear f_t5
     have D6 : Hid (Below W3.heap.size W3 W6) := D5.out.trans (b6.mono D5.out.size)
     (refine wpAnyH_take (i := 6) (v := ?v6x4) rfl (by kernel_rfl) (by kernel_rfl) (by kernel_rfl) (fun _ _ _ h => h) (Or.inl ⟨by rfl, ?hy6x4⟩) (by assumption) ?rest6x4; case hy6x4 => (intro w hSw; (try dsimp only at hSw); go_split_ands; go_simp; (try with_reducible rfl)))
     try simp only [Act.put, pu1, pu2, pu3, pu4, pu5, pu6]
     (refine wpAnyH_take (i := 7) (v := ?v7x5) rfl (by kernel_rfl) (by kernel_rfl) (by kernel_rfl) (fun _ _ _ h => h) (Or.inl ⟨by rfl, ?hy7x5⟩) (by assumption) ?rest7x5; case hy7x5 => (intro w hSw; (try dsimp only at hSw); go_split_ands; go_simp; (try with_reducible rfl)))
     try simp only [Act.put, pu1, pu2, pu3, pu4, pu5, pu6]
     (refine wpAnyH_take (i := 8) (v := ?v8x6) rfl (by kernel_rfl) (by kernel_rfl) (by kernel_rfl) (fun _ _ _ h => h) (Or.inl ⟨by rfl, ?hy8x6⟩) (by assumption) ?rest8x6; case hy8x6 => (intro w hSw; (try dsimp only at hSw); go_split_ands; go_simp; (try with_reducible rfl)))
     try simp only [Act.put, pu1, pu2, pu3, pu4, pu5, pu6]
     refine wpAnyH_ready (rs := [9]) (by kernel_rfl) (by simp) ?_
     refine AllReadyH.cons rfl (fun K hK => ?_) AllReadyH.nil
     go_simp
     refine hK.out _ _ ⟨(keepR (W := W6) hHeld.1 ((Below.refl _ _).alloc (Nat.le_refl _) _)), (keepR (W := W6) hHeld.2 ((Below.refl _ _).alloc (Nat.le_refl _) _))⟩ (fun hHeld => ?_)
     clear hK K
     try simp only [Act.put, pu1, pu2, pu3, pu4, pu5, pu6]
     obtain ⟨W7, HW7, b7, y7, r_x7⟩ : ∃ X, Hid ((W6.alloc (.cells #[.slice none 0 0, .int .i64 0, .string ⟨#[]⟩] 31)) = X) ∧ Below W6.heap.size W6 X ∧ W6.heap.size + 1 ≤ X.heap.size ∧ Hid (X.heap[W6.heap.size]? = some (.cells #[.slice none 0 0, .int .i64 0, .string ⟨#[]⟩] 31 (0, 0))) := ⟨_, rfl, ((Below.refl _ _).alloc (Nat.le_refl _) _), (by show _ ≤ (W6.heap.push _).size; simp), heap_alloc_new W6 _⟩
     have HHW7 := HW7.out
     rw [HHW7] at hHeld ⊢
     clear HHW7
     have z7 : W6.heap.size ≤ W7.heap.size := b7.size
     have B7 : Hid (Below w.heap.size w W7) := B6.out.trans (b7.mono B6.out.size)
     have o_l7 : Hid (Own W7 (w.heap.size) (W1.heap.size) 9 (.slice ao_l L_l cap_l) (ss l)) := Own.later o_l6.out b7 (by omega)
     have o_n7 : Hid (Own W7 (W3.heap.size) (W4.heap.size) 9 (.slice ao_n L_n cap_n) (ss [])) := Own.later o_n6.out b7 (by omega)
     have o_x7 : Hid (Own W7 (W5.heap.size) (W6.heap.size) 9 (.slice ao_x L_x cap_x) (ss l)) := Own.later o_x6.out b7 (by omega)
     have c_x7_0 : W7.cell? ⟨W6.heap.size, 0, none⟩ = some (.slice none 0 0) := row_at r_x7.out 0
     have c_x7_1 : W7.cell? ⟨W6.heap.size, 1, none⟩ = some (.int .i64 0) := row_at r_x7.out 1
     have c_x7_2 : W7.cell? ⟨W6.heap.size, 2, none⟩ = some (.string ⟨#[]⟩) := row_at r_x7.out 2
     clear o_l6 o_n6 o_x6
     have f_t7 : Hid (Sh W7 (.slice (some ⟨W4.heap.size, 0, none⟩) 1 1) [M]) := Sh.later f_t6.out b7
     clear f_t6
     have D7 : Hid (Below W3.heap.size W3 W7) := D6.out.trans (b7.mono D6.out.size)
     refine wpAnyH_ready (rs := [10]) (by kernel_rfl) (by simp) ?_
     refine AllReadyH.cons rfl (fun K hK => ?_) AllReadyH.nil
     rw [if_pos (by rfl)]
     refine wp_store_row 31 _ _ rfl (W6.heap.size) (lc (.slice ao_x L_x cap_x) M) rfl rfl 31 _ r_x7.out (sizeL _ _) rfl (oneL _ rfl) ?_
     refine hK.out _ _ ⟨(cell_row (by show W2.heap.size ≠ W6.heap.size; omega) hHeld.1), (cell_row (by show W2.heap.size ≠ W6.heap.size; omega) hHeld.2)⟩ (fun hHeld => ?_)
     clear hK K
     try simp only [Act.put, pu1, pu2, pu3, pu4, pu5, pu6]
     have D8a : Below W3.heap.size W3 (W7.setRow (W6.heap.size) (lc (.slice ao_x L_x cap_x) M)) := below_setRow D7.out (by omega) _
     obtain ⟨W8, HW8⟩ : ∃ X, Hid (W7.setRow (W6.heap.size) (lc (.slice ao_x L_x cap_x) M) = X) := ⟨_, rfl⟩
     have z8 : W7.heap.size ≤ W8.heap.size := by rw [← HW8.out]; simp
     have B8 : Hid (Below w.heap.size w W8) := by show Below _ _ _; rw [← HW8.out]; exact below_setRow B7.out (by have := B7.out.size; omega) _
     have o_l8 : Hid (Own W8 (w.heap.size) (W1.heap.size) 9 (.slice ao_l L_l cap_l) (ss l)) := by show Own _ _ _ _ _ _; rw [← HW8.out]; exact Own.setRow o_l7.out _ (by omega)
     have o_n8 : Hid (Own W8 (W3.heap.size) (W4.heap.size) 9 (.slice ao_n L_n cap_n) (ss [])) := by show Own _ _ _ _ _ _; rw [← HW8.out]; exact Own.setRow o_n7.out _ (by omega)
     have o_x8 : Hid (Own W8 (W5.heap.size) (W6.heap.size) 9 (.slice ao_x L_x cap_x) (ss l)) := by show Own _ _ _ _ _ _; rw [← HW8.out]; exact Own.setRow o_x7.out _ (by omega)
     have r_x8 : Hid (W8.heap[W6.heap.size]? = some (.cells #[.slice ao_x L_x cap_x, .int .i64 M.n, .string M.r] 31 (0, 0))) := by show _ = _; rw [← HW8.out]; exact setRow_heap _ _ _ _ _ (0, 0) r_x7.out
     rw [HW8.out]
     clear r_x7 c_x7_0 c_x7_1 c_x7_2 o_l7 o_n7 o_x7
     have c_x8_0 : W8.cell? ⟨W6.heap.size, 0, none⟩ = some (.slice ao_x L_x cap_x) := row_at r_x8.out 0
     have c_x8_1 : W8.cell? ⟨W6.heap.size, 1, none⟩ = some (.int .i64 M.n) := row_at r_x8.out 1
     have c_x8_2 : W8.cell? ⟨W6.heap.size, 2, none⟩ = some (.string M.r) := row_at r_x8.out 2
     rw [HW8.out] at hHeld
     have D8 : Hid (Below W3.heap.size W3 W8) := by show Below _ _ _; rw [← HW8.out]; exact D8a
     (refine wpAnyH_take (i := 11) (v := ?v11x7) rfl (by kernel_rfl) (by kernel_rfl) (by kernel_rfl) (fun _ _ _ h => h) (Or.inl ⟨by rfl, ?hy11x7⟩) (by assumption) ?rest11x7; case hy11x7 => (intro w hSw; (try dsimp only at hSw); go_split_ands; go_simp; (try with_reducible rfl)))
     try simp only [Act.put, pu1, pu2, pu3, pu4, pu5, pu6]
     refine wpAnyH_done (by kernel_rfl) ?_ _
     clear hHeld
     go_wp2_with fail
     go_meet
     exact ⟨W6.heap.size, rfl, rfl, by omega, (Array.getElem?_eq_some_iff.1 r_x8.out).1, D8.out, W5.heap.size, W6.heap.size, ao_x, L_x, cap_x, by omega, by omega, by omega, o_x8.out, by omega, r_x8.out⟩
    ·
     go_simp
     refine hK.out _ _ ⟨(keepR (W := W5) hHeld.1 ((Below.refl _ _).alloc (Nat.le_refl _) _)), (keepR (W := W5) hHeld.2 ((Below.refl _ _).alloc (Nat.le_refl _) _))⟩ (fun hHeld => ?_)
     clear hK K
     try simp only [Act.put, pu1, pu2, pu3, pu4, pu5, pu6]
     obtain ⟨W6, HW6, b6, y6, r_x6⟩ : ∃ X, Hid ((W5.alloc (.cells #[.slice none 0 0, .int .i64 0, .string ⟨#[]⟩] 31)) = X) ∧ Below W5.heap.size W5 X ∧ W5.heap.size + 1 ≤ X.heap.size ∧ Hid (X.heap[W5.heap.size]? = some (.cells #[.slice none 0 0, .int .i64 0, .string ⟨#[]⟩] 31 (0, 0))) := ⟨_, rfl, ((Below.refl _ _).alloc (Nat.le_refl _) _), (by show _ ≤ (W5.heap.push _).size; simp), heap_alloc_new W5 _⟩
     have HHW6 := HW6.out
     rw [HHW6] at hHeld ⊢
     clear HHW6
     have z6 : W5.heap.size ≤ W6.heap.size := b6.size
     have B6 : Hid (Below w.heap.size w W6) := B5.out.trans (b6.mono B5.out.size)
     have o_l6 : Hid (Own W6 (w.heap.size) (W1.heap.size) 9 (.slice ao_l L_l cap_l) (ss l)) := Own.later o_l5.out b6 (by omega)
     have o_n6 : Hid (Own W6 (W3.heap.size) (W4.heap.size) 9 (.slice ao_n L_n cap_n) (ss [])) := Own.later o_n5.out b6 (by omega)
     have c_x6_0 : W6.cell? ⟨W5.heap.size, 0, none⟩ = some (.slice none 0 0) := row_at r_x6.out 0
     have c_x6_1 : W6.cell? ⟨W5.heap.size, 1, none⟩ = some (.int .i64 0) := row_at r_x6.out 1
     have c_x6_2 : W6.cell? ⟨W5.heap.size, 2, none⟩ = some (.string ⟨#[]⟩) := row_at r_x6.out 2
     clear o_l5 o_n5
     have f_t6 : Hid (Sh W6 (.slice (some ⟨W4.heap.size, 0, none⟩) 1 1) [M]) := Sh.later f_t5.out b6
     clear f_t5
     have D6 : Hid (Below W3.heap.size W3 W6) := D5.out.trans (b6.mono D5.out.size)
     refine wpAnyH_ready (rs := [5]) (by kernel_rfl) (by simp) ?_
     refine AllReadyH.cons rfl (fun K hK => ?_) AllReadyH.nil
     go_simp
     refine (q3 W6 _ _ _ B6.out o_n6.out.sl f_t6.out o_l6.out.sl).mono ?_
     rintro e W7 ⟨v_x, rfl, o_x7, b7⟩
     refine hK.out _ _ ⟨(keepR (W := W6) hHeld.1 b7), (keepR (W := W6) hHeld.2 b7)⟩ (fun hHeld => ?_)
     clear hK K
     try simp only [Act.put, pu1, pu2, pu3, pu4, pu5, pu6]
     obtain ⟨ao_x, L_x, cap_x, rfl, hL_x, hM_x⟩ := o_x7.form
     have o_x7 : Hid (Own W7 W6.heap.size W7.heap.size 9 (.slice ao_x L_x cap_x) (ss l)) := o_x7
     clear hL_x hM_x
     have z7 : W6.heap.size ≤ W7.heap.size := b7.size
     have B7 : Hid (Below w.heap.size w W7) := B6.out.trans (b7.mono B6.out.size)
     have r_x7 : Hid (W7.heap[W5.heap.size]? = some (.cells #[.slice none 0 0, .int .i64 0, .string ⟨#[]⟩] 31 (0, 0))) := rowKeep r_x6.out b7
     have o_l7 : Hid (Own W7 (w.heap.size) (W1.heap.size) 9 (.slice ao_l L_l cap_l) (ss l)) := Own.later o_l6.out b7 (by omega)
     have o_n7 : Hid (Own W7 (W3.heap.size) (W4.heap.size) 9 (.slice ao_n L_n cap_n) (ss [])) := Own.later o_n6.out b7 (by omega)
     have c_x7_0 : W7.cell? ⟨W5.heap.size, 0, none⟩ = some (.slice none 0 0) := row_at r_x7.out 0
     have c_x7_1 : W7.cell? ⟨W5.heap.size, 1, none⟩ = some (.int .i64 0) := row_at r_x7.out 1
     have c_x7_2 : W7.cell? ⟨W5.heap.size, 2, none⟩ = some (.string ⟨#[]⟩) := row_at r_x7.out 2
     clear r_x6 c_x6_0 c_x6_1 c_x6_2 o_l6 o_n6
     have f_t7 : Hid (Sh W7 (.slice (some ⟨W4.heap.size, 0, none⟩) 1 1) [M]) := Sh.later f_t6.out b7
     clear f_t6
     have D7 : Hid (Below W3.heap.size W3 W7) := D6.out.trans (b7.mono D6.out.size)
     (refine wpAnyH_take (i := 6) (v := ?v6x8) rfl (by kernel_rfl) (by kernel_rfl) (by kernel_rfl) (fun _ _ _ h => h) (Or.inl ⟨by rfl, ?hy6x8⟩) (by assumption) ?rest6x8; case hy6x8 => (intro w hSw; (try dsimp only at hSw); go_split_ands; go_simp; (try with_reducible rfl)))
     try simp only [Act.put, pu1, pu2, pu3, pu4, pu5, pu6]
     (refine wpAnyH_take (i := 7) (v := ?v7x9) rfl (by kernel_rfl) (by kernel_rfl) (by kernel_rfl) (fun _ _ _ h => h) (Or.inl ⟨by rfl, ?hy7x9⟩) (by assumption) ?rest7x9; case hy7x9 => (intro w hSw; (try dsimp only at hSw); go_split_ands; go_simp; (try with_reducible rfl)))
     try simp only [Act.put, pu1, pu2, pu3, pu4, pu5, pu6]
     (refine wpAnyH_take (i := 8) (v := ?v8x10) rfl (by kernel_rfl) (by kernel_rfl) (by kernel_rfl) (fun _ _ _ h => h) (Or.inl ⟨by rfl, ?hy8x10⟩) (by assumption) ?rest8x10; case hy8x10 => (intro w hSw; (try dsimp only at hSw); go_split_ands; go_simp; (try with_reducible rfl)))
     try simp only [Act.put, pu1, pu2, pu3, pu4, pu5, pu6]
     refine wpAnyH_ready (rs := [10]) (by kernel_rfl) (by simp) ?_
     refine AllReadyH.cons rfl (fun K hK => ?_) AllReadyH.nil
     rw [if_pos (by rfl)]
     refine wp_store_row 31 _ _ rfl (W5.heap.size) (lc (.slice ao_x L_x cap_x) M) rfl rfl 31 _ r_x7.out (sizeL _ _) rfl (oneL _ rfl) ?_
     refine hK.out _ _ ⟨(cell_row (by show W2.heap.size ≠ W5.heap.size; omega) hHeld.1), (cell_row (by show W2.heap.size ≠ W5.heap.size; omega) hHeld.2)⟩ (fun hHeld => ?_)
     clear hK K
     try simp only [Act.put, pu1, pu2, pu3, pu4, pu5, pu6]
     have D8a : Below W3.heap.size W3 (W7.setRow (W5.heap.size) (lc (.slice ao_x L_x cap_x) M)) := below_setRow D7.out (by omega) _
     obtain ⟨W8, HW8⟩ : ∃ X, Hid (W7.setRow (W5.heap.size) (lc (.slice ao_x L_x cap_x) M) = X) := ⟨_, rfl⟩
     have z8 : W7.heap.size ≤ W8.heap.size := by rw [← HW8.out]; simp
     have B8 : Hid (Below w.heap.size w W8) := by show Below _ _ _; rw [← HW8.out]; exact below_setRow B7.out (by have := B7.out.size; omega) _
     have o_l8 : Hid (Own W8 (w.heap.size) (W1.heap.size) 9 (.slice ao_l L_l cap_l) (ss l)) := by show Own _ _ _ _ _ _; rw [← HW8.out]; exact Own.setRow o_l7.out _ (by omega)
     have o_n8 : Hid (Own W8 (W3.heap.size) (W4.heap.size) 9 (.slice ao_n L_n cap_n) (ss [])) := by show Own _ _ _ _ _ _; rw [← HW8.out]; exact Own.setRow o_n7.out _ (by omega)
     have o_x8 : Hid (Own W8 (W6.heap.size) (W7.heap.size) 9 (.slice ao_x L_x cap_x) (ss l)) := by show Own _ _ _ _ _ _; rw [← HW8.out]; exact Own.setRow o_x7.out _ (by omega)
     have r_x8 : Hid (W8.heap[W5.heap.size]? = some (.cells #[.slice ao_x L_x cap_x, .int .i64 M.n, .string M.r] 31 (0, 0))) := by show _ = _; rw [← HW8.out]; exact setRow_heap _ _ _ _ _ (0, 0) r_x7.out
     rw [HW8.out]
     clear r_x7 c_x7_0 c_x7_1 c_x7_2 o_l7 o_n7 o_x7
     have c_x8_0 : W8.cell? ⟨W5.heap.size, 0, none⟩ = some (.slice ao_x L_x cap_x) := row_at r_x8.out 0
     have c_x8_1 : W8.cell? ⟨W5.heap.size, 1, none⟩ = some (.int .i64 M.n) := row_at r_x8.out 1
     have c_x8_2 : W8.cell? ⟨W5.heap.size, 2, none⟩ = some (.string M.r) := row_at r_x8.out 2
     rw [HW8.out] at hHeld
     have D8 : Hid (Below W3.heap.size W3 W8) := by show Below _ _ _; rw [← HW8.out]; exact D8a
     (refine wpAnyH_take (i := 11) (v := ?v11x11) rfl (by kernel_rfl) (by kernel_rfl) (by kernel_rfl) (fun _ _ _ h => h) (Or.inl ⟨by rfl, ?hy11x11⟩) (by assumption) ?rest11x11; case hy11x11 => (intro w hSw; (try dsimp only at hSw); go_split_ands; go_simp; (try with_reducible rfl)))
     try simp only [Act.put, pu1, pu2, pu3, pu4, pu5, pu6]
     refine wpAnyH_done (by kernel_rfl) ?_ _
     clear hHeld
     go_wp2_with fail
     go_meet
     exact ⟨W5.heap.size, rfl, rfl, by omega, (Array.getElem?_eq_some_iff.1 r_x8.out).1, D8.out, W6.heap.size, W7.heap.size, ao_x, L_x, cap_x, by omega, by omega, by omega, o_x8.out, by omega, r_x8.out⟩
   ·
    go_simp
    refine hK.out _ _ ⟨(keepR (W := W4) hHeld.1 ((Below.refl _ _).alloc (Nat.le_refl _) _)), (keepR (W := W4) hHeld.2 ((Below.refl _ _).alloc (Nat.le_refl _) _))⟩ (fun hHeld => ?_)
    clear hK K
    try simp only [Act.put, pu1, pu2, pu3, pu4, pu5, pu6]
    obtain ⟨W5, HW5, b5, y5, r_x5⟩ : ∃ X, Hid ((W4.alloc (.cells #[.slice none 0 0, .int .i64 0, .string ⟨#[]⟩] 31)) = X) ∧ Below W4.heap.size W4 X ∧ W4.heap.size + 1 ≤ X.heap.size ∧ Hid (X.heap[W4.heap.size]? = some (.cells #[.slice none 0 0, .int .i64 0, .string ⟨#[]⟩] 31 (0, 0))) := ⟨_, rfl, ((Below.refl _ _).alloc (Nat.le_refl _) _), (by show _ ≤ (W4.heap.push _).size; simp), heap_alloc_new W4 _⟩
    have HHW5 := HW5.out
    rw [HHW5] at hHeld ⊢
    clear HHW5
    have z5 : W4.heap.size ≤ W5.heap.size := b5.size
    have B5 : Hid (Below w.heap.size w W5) := B4.out.trans (b5.mono B4.out.size)
    have o_l5 : Hid (Own W5 (w.heap.size) (W1.heap.size) 9 (.slice ao_l L_l cap_l) (ss l)) := Own.later o_l4.out b5 (by omega)
    have o_n5 : Hid (Own W5 (W3.heap.size) (W4.heap.size) 9 (.slice ao_n L_n cap_n) (ss [])) := Own.later o_n4.out b5 (by omega)
    have c_x5_0 : W5.cell? ⟨W4.heap.size, 0, none⟩ = some (.slice none 0 0) := row_at r_x5.out 0
    have c_x5_1 : W5.cell? ⟨W4.heap.size, 1, none⟩ = some (.int .i64 0) := row_at r_x5.out 1
    have c_x5_2 : W5.cell? ⟨W4.heap.size, 2, none⟩ = some (.string ⟨#[]⟩) := row_at r_x5.out 2
    clear o_l4 o_n4
    have D5 : Hid (Below W3.heap.size W3 W5) := D4.out.trans (b5.mono D4.out.size)
    refine wpAnyH_ready (rs := [2]) (by kernel_rfl) (by simp) ?_
    refine AllReadyH.cons rfl (fun K hK => ?_) AllReadyH.nil
    go_simp
    refine hK.out _ _ ⟨(keepR (W := W5) hHeld.1 ((Below.refl _ _).alloc (Nat.le_refl _) _)), (keepR (W := W5) hHeld.2 ((Below.refl _ _).alloc (Nat.le_refl _) _))⟩ (fun hHeld => ?_)
    clear hK K
    try simp only [Act.put, pu1, pu2, pu3, pu4, pu5, pu6]
    obtain ⟨W6, HW6, b6, ff6⟩ : ∃ X, Hid ((W5.alloc (.cells #[.int .i64 M.n, .string M.r] 28)) = X) ∧ Below W5.heap.size W5 X ∧ Hid (Sh X (.slice (some ⟨W5.heap.size, 0, none⟩) 1 1) [M]) := ⟨_, rfl, ((Below.refl _ _).alloc (Nat.le_refl _) _), Sh.one W5 M⟩
    have HHW6 := HW6.out
    rw [HHW6] at hHeld ⊢
    clear HHW6
    have z6 : W5.heap.size ≤ W6.heap.size := b6.size
    have B6 : Hid (Below w.heap.size w W6) := B5.out.trans (b6.mono B5.out.size)
    have r_x6 : Hid (W6.heap[W4.heap.size]? = some (.cells #[.slice none 0 0, .int .i64 0, .string ⟨#[]⟩] 31 (0, 0))) := rowKeep r_x5.out b6
    have o_l6 : Hid (Own W6 (w.heap.size) (W1.heap.size) 9 (.slice ao_l L_l cap_l) (ss l)) := Own.later o_l5.out b6 (by omega)
    have o_n6 : Hid (Own W6 (W3.heap.size) (W4.heap.size) 9 (.slice ao_n L_n cap_n) (ss [])) := Own.later o_n5.out b6 (by omega)
    have c_x6_0 : W6.cell? ⟨W4.heap.size, 0, none⟩ = some (.slice none 0 0) := row_at r_x6.out 0
    have c_x6_1 : W6.cell? ⟨W4.heap.size, 1, none⟩ = some (.int .i64 0) := row_at r_x6.out 1
    have c_x6_2 : W6.cell? ⟨W4.heap.size, 2, none⟩ = some (.string ⟨#[]⟩) := row_at r_x6.out 2
    clear r_x5 c_x5_0 c_x5_1 c_x5_2 o_l5 o_n5
    have D6 : Hid (Below W3.heap.size W3 W6) := D5.out.trans (b6.mono D5.out.size)
    have f_t6 : Hid (Sh W6 (.slice (some ⟨W5.heap.size, 0, none⟩) 1 1) [M]) := ff6.out
    clear ff6
    refine wpAnyH_ready (rs := [5]) (by kernel_rfl) (by simp) ?_
    refine AllReadyH.cons rfl (fun K hK => ?_) AllReadyH.nil
    go_simp
    refine (q3 W6 _ _ _ B6.out o_n6.out.sl f_t6.out o_l6.out.sl).mono ?_
    rintro e W7 ⟨v_x, rfl, o_x7, b7⟩
    refine hK.out _ _ ⟨(keepR (W := W6) hHeld.1 b7), (keepR (W := W6) hHeld.2 b7)⟩ (fun hHeld => ?_)
    clear hK K
    try simp only [Act.put, pu1, pu2, pu3, pu4, pu5, pu6]
    obtain ⟨ao_x, L_x, cap_x, rfl, hL_x, hM_x⟩ := o_x7.form
    have o_x7 : Hid (Own W7 W6.heap.size W7.heap.size 9 (.slice ao_x L_x cap_x) (ss l)) := o_x7
    clear hL_x hM_x
    have z7 : W6.heap.size ≤ W7.heap.size := b7.size
    have B7 : Hid (Below w.heap.size w W7) := B6.out.trans (b7.mono B6.out.size)
    have r_x7 : Hid (W7.heap[W4.heap.size]? = some (.cells #[.slice none 0 0, .int .i64 0, .string ⟨#[]⟩] 31 (0, 0))) := rowKeep r_x6.out b7
    have o_l7 : Hid (Own W7 (w.heap.size) (W1.heap.size) 9 (.slice ao_l L_l cap_l) (ss l)) := Own.later o_l6.out b7 (by omega)
    have o_n7 : Hid (Own W7 (W3.heap.size) (W4.heap.size) 9 (.slice ao_n L_n cap_n) (ss [])) := Own.later o_n6.out b7 (by omega)
    have c_x7_0 : W7.cell? ⟨W4.heap.size, 0, none⟩ = some (.slice none 0 0) := row_at r_x7.out 0
    have c_x7_1 : W7.cell? ⟨W4.heap.size, 1, none⟩ = some (.int .i64 0) := row_at r_x7.out 1
    have c_x7_2 : W7.cell? ⟨W4.heap.size, 2, none⟩ = some (.string ⟨#[]⟩) := row_at r_x7.out 2
    clear r_x6 c_x6_0 c_x6_1 c_x6_2 o_l6 o_n6
    have f_t7 : Hid (Sh W7 (.slice (some ⟨W5.heap.size, 0, none⟩) 1 1) [M]) := Sh.later f_t6.out b7
    clear f_t6
    have D7 : Hid (Below W3.heap.size W3 W7) := D6.out.trans (b7.mono D6.out.size)
    (refine wpAnyH_take (i := 6) (v := ?v6x12) rfl (by kernel_rfl) (by kernel_rfl) (by kernel_rfl) (fun _ _ _ h => h) (Or.inl ⟨by rfl, ?hy6x12⟩) (by assumption) ?rest6x12; case hy6x12 => (intro w hSw; (try dsimp only at hSw); go_split_ands; go_simp; (try with_reducible rfl)))
    try simp only [Act.put, pu1, pu2, pu3, pu4, pu5, pu6]
    (refine wpAnyH_take (i := 7) (v := ?v7x13) rfl (by kernel_rfl) (by kernel_rfl) (by kernel_rfl) (fun _ _ _ h => h) (Or.inl ⟨by rfl, ?hy7x13⟩) (by assumption) ?rest7x13; case hy7x13 => (intro w hSw; (try dsimp only at hSw); go_split_ands; go_simp; (try with_reducible rfl)))
    try simp only [Act.put, pu1, pu2, pu3, pu4, pu5, pu6]
    (refine wpAnyH_take (i := 8) (v := ?v8x14) rfl (by kernel_rfl) (by kernel_rfl) (by kernel_rfl) (fun _ _ _ h => h) (Or.inl ⟨by rfl, ?hy8x14⟩) (by assumption) ?rest8x14; case hy8x14 => (intro w hSw; (try dsimp only at hSw); go_split_ands; go_simp; (try with_reducible rfl)))
    try simp only [Act.put, pu1, pu2, pu3, pu4, pu5, pu6]
    refine wpAnyH_ready (rs := [10]) (by kernel_rfl) (by simp) ?_
    refine AllReadyH.cons rfl (fun K hK => ?_) AllReadyH.nil
    rw [if_pos (by rfl)]
    refine wp_store_row 31 _ _ rfl (W4.heap.size) (lc (.slice ao_x L_x cap_x) M) rfl rfl 31 _ r_x7.out (sizeL _ _) rfl (oneL _ rfl) ?_
    refine hK.out _ _ ⟨(cell_row (by show W2.heap.size ≠ W4.heap.size; omega) hHeld.1), (cell_row (by show W2.heap.size ≠ W4.heap.size; omega) hHeld.2)⟩ (fun hHeld => ?_)
    clear hK K
    try simp only [Act.put, pu1, pu2, pu3, pu4, pu5, pu6]
    have D8a : Below W3.heap.size W3 (W7.setRow (W4.heap.size) (lc (.slice ao_x L_x cap_x) M)) := below_setRow D7.out (by omega) _
    obtain ⟨W8, HW8⟩ : ∃ X, Hid (W7.setRow (W4.heap.size) (lc (.slice ao_x L_x cap_x) M) = X) := ⟨_, rfl⟩
    have z8 : W7.heap.size ≤ W8.heap.size := by rw [← HW8.out]; simp
    have B8 : Hid (Below w.heap.size w W8) := by show Below _ _ _; rw [← HW8.out]; exact below_setRow B7.out (by have := B7.out.size; omega) _
    have o_l8 : Hid (Own W8 (w.heap.size) (W1.heap.size) 9 (.slice ao_l L_l cap_l) (ss l)) := by show Own _ _ _ _ _ _; rw [← HW8.out]; exact Own.setRow o_l7.out _ (by omega)
    have o_n8 : Hid (Own W8 (W3.heap.size) (W4.heap.size) 9 (.slice ao_n L_n cap_n) (ss [])) := by show Own _ _ _ _ _ _; rw [← HW8.out]; exact Own.setRow o_n7.out _ (by omega)
    have o_x8 : Hid (Own W8 (W6.heap.size) (W7.heap.size) 9 (.slice ao_x L_x cap_x) (ss l)) := by show Own _ _ _ _ _ _; rw [← HW8.out]; exact Own.setRow o_x7.out _ (by omega)
    have r_x8 : Hid (W8.heap[W4.heap.size]? = some (.cells #[.slice ao_x L_x cap_x, .int .i64 M.n, .string M.r] 31 (0, 0))) := by show _ = _; rw [← HW8.out]; exact setRow_heap _ _ _ _ _ (0, 0) r_x7.out
    rw [HW8.out]
    clear r_x7 c_x7_0 c_x7_1 c_x7_2 o_l7 o_n7 o_x7
    have c_x8_0 : W8.cell? ⟨W4.heap.size, 0, none⟩ = some (.slice ao_x L_x cap_x) := row_at r_x8.out 0
    have c_x8_1 : W8.cell? ⟨W4.heap.size, 1, none⟩ = some (.int .i64 M.n) := row_at r_x8.out 1
    have c_x8_2 : W8.cell? ⟨W4.heap.size, 2, none⟩ = some (.string M.r) := row_at r_x8.out 2
    rw [HW8.out] at hHeld
    have D8 : Hid (Below W3.heap.size W3 W8) := by show Below _ _ _; rw [← HW8.out]; exact D8a
    (refine wpAnyH_take (i := 11) (v := ?v11x15) rfl (by kernel_rfl) (by kernel_rfl) (by kernel_rfl) (fun _ _ _ h => h) (Or.inl ⟨by rfl, ?hy11x15⟩) (by assumption) ?rest11x15; case hy11x15 => (intro w hSw; (try dsimp only at hSw); go_split_ands; go_simp; (try with_reducible rfl)))
    try simp only [Act.put, pu1, pu2, pu3, pu4, pu5, pu6]
    refine wpAnyH_done (by kernel_rfl) ?_ _
    clear hHeld
    go_wp2_with fail
    go_meet
    exact ⟨W4.heap.size, rfl, rfl, by omega, (Array.getElem?_eq_some_iff.1 r_x8.out).1, D8.out, W6.heap.size, W7.heap.size, ao_x, L_x, cap_x, by omega, by omega, by omega, o_x8.out, by omega, r_x8.out⟩
  ·
   go_simp
   refine hK.out _ _ ⟨(keepR (W := W3.drew) hHeld.1 ((Below.refl _ _).alloc (Nat.le_refl _) _)), (keepR (W := W3.drew) hHeld.2 ((Below.refl _ _).alloc (Nat.le_refl _) _))⟩ (fun hHeld => ?_)
   clear hK K
   try simp only [Act.put, pu1, pu2, pu3, pu4, pu5, pu6]
   obtain ⟨W4, HW4, b4, ff4⟩ : ∃ X, Hid ((W3.alloc (.cells #[.int .i64 M.n, .string M.r] 28)).drew = X) ∧ Below W3.heap.size W3 X ∧ Hid (Sh X (.slice (some ⟨W3.heap.size, 0, none⟩) 1 1) [M]) := ⟨_, rfl, (Below.drew ((Below.refl _ _).alloc (Nat.le_refl _) _)), Sh.one W3 M⟩
   have HHW4 := HW4.out
   rw [HHW4] at hHeld ⊢
   clear HHW4
   have z4 : W3.heap.size ≤ W4.heap.size := b4.size
   have B4 : Hid (Below w.heap.size w W4) := B3.out.trans (b4.mono B3.out.size)
   have o_l4 : Hid (Own W4 (w.heap.size) (W1.heap.size) 9 (.slice ao_l L_l cap_l) (ss l)) := Own.later o_l3.out b4 (by omega)
   clear o_l3
   have D4 : Hid (Below W3.heap.size W3 W4) := D3.out.trans (b4.mono D3.out.size)
   have f_t4 : Hid (Sh W4 (.slice (some ⟨W3.heap.size, 0, none⟩) 1 1) [M]) := ff4.out
   clear ff4
   refine wpAnyH_ready (rs := [0, 9]) (by kernel_rfl) (by simp) ?_
   refine AllReadyH.cons rfl (fun K hK => ?_) (AllReadyH.cons rfl (fun K hK => ?_) AllReadyH.nil)
   ·
    go_simp
    refine (iNew W4 B4.out).mono ?_
    rintro e W5 ⟨v_n, rfl, o_n5, b5⟩
    refine hK.out _ _ ⟨(keepR (W := W4) hHeld.1 b5), (keepR (W := W4) hHeld.2 b5)⟩ (fun hHeld => ?_)
    clear hK K
    try simp only [Act.put, pu1, pu2, pu3, pu4, pu5, pu6]
    obtain ⟨ao_n, L_n, cap_n, rfl, hL_n, hM_n⟩ := o_n5.form
    have o_n5 : Hid (Own W5 W4.heap.size W5.heap.size 9 (.slice ao_n L_n cap_n) (ss [])) := o_n5
    clear hL_n hM_n
    have z5 : W4.heap.size ≤ W5.heap.size := b5.size
    have B5 : Hid (Below w.heap.size w W5) := B4.out.trans (b5.mono B4.out.size)
    have o_l5 : Hid (Own W5 (w.heap.size) (W1.heap.size) 9 (.slice ao_l L_l cap_l) (ss l)) := Own.later o_l4.out b5 (by omega)
    clear o_l4
    have f_t5 : Hid (Sh W5 (.slice (some ⟨W3.heap.size, 0, none⟩) 1 1) [M]) := Sh.later f_t4.out b5
    clear f_t4
    have D5 : Hid (Below W3.heap.size W3 W5) := D4.out.trans (b5.mono D4.out.size)
    refine wpAnyH_ready (rs := [5, 9]) (by kernel_rfl) (by simp) ?_
    refine AllReadyH.cons rfl (fun K hK => ?_) (AllReadyH.cons rfl (fun K hK => ?_) AllReadyH.nil)
    ·
     go_simp
     refine (q3 W5 _ _ _ B5.out o_n5.out.sl f_t5.out o_l5.out.sl).mono ?_
     rintro e W6 ⟨v_x, rfl, o_x6, b6⟩
     refine hK.out _ _ ⟨(keepR (W := W5) hHeld.1 b6), (keepR (W := W5) hHeld.2 b6)⟩ (fun hHeld => ?_)
     clear hK K
     try simp only [Act.put, pu1, pu2, pu3, pu4, pu5, pu6]
     obtain ⟨ao_x, L_x, cap_x, rfl, hL_x, hM_x⟩ := o_x6.form
     have o_x6 : Hid (Own W6 W5.heap.size W6.heap.size 9 (.slice ao_x L_x cap_x) (ss l)) := o_x6
     clear hL_x hM_x
     have z6 : W5.heap.size ≤ W6.heap.size := b6.size
     have B6 : Hid (Below w.heap.size w W6) := B5.out.trans (b6.mono B5.out.size)
     have o_l6 : Hid (Own W6 (w.heap.size) (W1.heap.size) 9 (.slice ao_l L_l cap_l) (ss l)) := Own.later o_l5.out b6 (by omega)
     have o_n6 : Hid (Own W6 (W4.heap.size) (W5.heap.size) 9 (.slice ao_n L_n cap_n) (ss [])) := Own.later o_n5.out b6 (by omega)
     clear o_l5 o_n5
     have f_t6 : Hid (Sh W6 (.slice (some ⟨W3.heap.size, 0, none⟩) 1 1) [M]) := Sh.later f_t5.out b6
     clear f_t5
     have D6 : Hid (Below W3.heap.size W3 W6) := D5.out.trans (b6.mono D5.out.size)
     (refine wpAnyH_take (i := 6) (v := ?v6x16) rfl (by kernel_rfl) (by kernel_rfl) (by kernel_rfl) (fun _ _ _ h => h) (Or.inl ⟨by rfl, ?hy6x16⟩) (by assumption) ?rest6x16; case hy6x16 => (intro w hSw; (try dsimp only at hSw); go_split_ands; go_simp; (try with_reducible rfl)))
     try simp only [Act.put, pu1, pu2, pu3, pu4, pu5, pu6]
     (refine wpAnyH_take (i := 7) (v := ?v7x17) rfl (by kernel_rfl) (by kernel_rfl) (by kernel_rfl) (fun _ _ _ h => h) (Or.inl ⟨by rfl, ?hy7x17⟩) (by assumption) ?rest7x17; case hy7x17 => (intro w hSw; (try dsimp only at hSw); go_split_ands; go_simp; (try with_reducible rfl)))
     try simp only [Act.put, pu1, pu2, pu3, pu4, pu5, pu6]
     (refine wpAnyH_take (i := 8) (v := ?v8x18) rfl (by kernel_rfl) (by kernel_rfl) (by kernel_rfl) (fun _ _ _ h => h) (Or.inl ⟨by rfl, ?hy8x18⟩) (by assumption) ?rest8x18; case hy8x18 => (intro w hSw; (try dsimp only at hSw); go_split_ands; go_simp; (try with_reducible rfl)))
     try simp only [Act.put, pu1, pu2, pu3, pu4, pu5, pu6]
     refine wpAnyH_ready (rs := [9]) (by kernel_rfl) (by simp) ?_
     refine AllReadyH.cons rfl (fun K hK => ?_) AllReadyH.nil
     go_simp
     refine hK.out _ _ ⟨(keepR (W := W6) hHeld.1 ((Below.refl _ _).alloc (Nat.le_refl _) _)), (keepR (W := W6) hHeld.2 ((Below.refl _ _).alloc (Nat.le_refl _) _))⟩ (fun hHeld => ?_)
     clear hK K
     try simp only [Act.put, pu1, pu2, pu3, pu4, pu5, pu6]
     obtain ⟨W7, HW7, b7, y7, r_x7⟩ : ∃ X, Hid ((W6.alloc (.cells #[.slice none 0 0, .int .i64 0, .string ⟨#[]⟩] 31)) = X) ∧ Below W6.heap.size W6 X ∧ W6.heap.size + 1 ≤ X.heap.size ∧ Hid (X.heap[W6.heap.size]? = some (.cells #[.slice none 0 0, .int .i64 0, .string ⟨#[]⟩] 31 (0, 0))) := ⟨_, rfl, ((Below.refl _ _).alloc (Nat.le_refl _) _), (by show _ ≤ (W6.heap.push _).size; simp), heap_alloc_new W6 _⟩
     have HHW7 := HW7.out
     rw [HHW7] at hHeld ⊢
     clear HHW7
     have z7 : W6.heap.size ≤ W7.heap.size := b7.size
     have B7 : Hid (Below w.heap.size w W7) := B6.out.trans (b7.mono B6.out.size)
     have o_l7 : Hid (Own W7 (w.heap.size) (W1.heap.size) 9 (.slice ao_l L_l cap_l) (ss l)) := Own.later o_l6.out b7 (by omega)
     have o_n7 : Hid (Own W7 (W4.heap.size) (W5.heap.size) 9 (.slice ao_n L_n cap_n) (ss [])) := Own.later o_n6.out b7 (by omega)
     have o_x7 : Hid (Own W7 (W5.heap.size) (W6.heap.size) 9 (.slice ao_x L_x cap_x) (ss l)) := Own.later o_x6.out b7 (by omega)
     have c_x7_0 : W7.cell? ⟨W6.heap.size, 0, none⟩ = some (.slice none 0 0) := row_at r_x7.out 0
     have c_x7_1 : W7.cell? ⟨W6.heap.size, 1, none⟩ = some (.int .i64 0) := row_at r_x7.out 1
     have c_x7_2 : W7.cell? ⟨W6.heap.size, 2, none⟩ = some (.string ⟨#[]⟩) := row_at r_x7.out 2
     clear o_l6 o_n6 o_x6
     have f_t7 : Hid (Sh W7 (.slice (some ⟨W3.heap.size, 0, none⟩) 1 1) [M]) := Sh.later f_t6.out b7
     clear f_t6
     have D7 : Hid (Below W3.heap.size W3 W7) := D6.out.trans (b7.mono D6.out.size)
     refine wpAnyH_ready (rs := [10]) (by kernel_rfl) (by simp) ?_
     refine AllReadyH.cons rfl (fun K hK => ?_) AllReadyH.nil
     rw [if_pos (by rfl)]
     refine wp_store_row 31 _ _ rfl (W6.heap.size) (lc (.slice ao_x L_x cap_x) M) rfl rfl 31 _ r_x7.out (sizeL _ _) rfl (oneL _ rfl) ?_
     refine hK.out _ _ ⟨(cell_row (by show W2.heap.size ≠ W6.heap.size; omega) hHeld.1), (cell_row (by show W2.heap.size ≠ W6.heap.size; omega) hHeld.2)⟩ (fun hHeld => ?_)
     clear hK K
     try simp only [Act.put, pu1, pu2, pu3, pu4, pu5, pu6]
     have D8a : Below W3.heap.size W3 (W7.setRow (W6.heap.size) (lc (.slice ao_x L_x cap_x) M)) := below_setRow D7.out (by omega) _
     obtain ⟨W8, HW8⟩ : ∃ X, Hid (W7.setRow (W6.heap.size) (lc (.slice ao_x L_x cap_x) M) = X) := ⟨_, rfl⟩
     have z8 : W7.heap.size ≤ W8.heap.size := by rw [← HW8.out]; simp
     have B8 : Hid (Below w.heap.size w W8) := by show Below _ _ _; rw [← HW8.out]; exact below_setRow B7.out (by have := B7.out.size; omega) _
     have o_l8 : Hid (Own W8 (w.heap.size) (W1.heap.size) 9 (.slice ao_l L_l cap_l) (ss l)) := by show Own _ _ _ _ _ _; rw [← HW8.out]; exact Own.setRow o_l7.out _ (by omega)
     have o_n8 : Hid (Own W8 (W4.heap.size) (W5.heap.size) 9 (.slice ao_n L_n cap_n) (ss [])) := by show Own _ _ _ _ _ _; rw [← HW8.out]; exact Own.setRow o_n7.out _ (by omega)
     have o_x8 : Hid (Own W8 (W5.heap.size) (W6.heap.size) 9 (.slice ao_x L_x cap_x) (ss l)) := by show Own _ _ _ _ _ _; rw [← HW8.out]; exact Own.setRow o_x7.out _ (by omega)
     have r_x8 : Hid (W8.heap[W6.heap.size]? = some (.cells #[.slice ao_x L_x cap_x, .int .i64 M.n, .string M.r] 31 (0, 0))) := by show _ = _; rw [← HW8.out]; exact setRow_heap _ _ _ _ _ (0, 0) r_x7.out
     rw [HW8.out]
     clear r_x7 c_x7_0 c_x7_1 c_x7_2 o_l7 o_n7 o_x7
     have c_x8_0 : W8.cell? ⟨W6.heap.size, 0, none⟩ = some (.slice ao_x L_x cap_x) := row_at r_x8.out 0
     have c_x8_1 : W8.cell? ⟨W6.heap.size, 1, none⟩ = some (.int .i64 M.n) := row_at r_x8.out 1
     have c_x8_2 : W8.cell? ⟨W6.heap.size, 2, none⟩ = some (.string M.r) := row_at r_x8.out 2
     rw [HW8.out] at hHeld
     have D8 : Hid (Below W3.heap.size W3 W8) := by show Below _ _ _; rw [← HW8.out]; exact D8a
     (refine wpAnyH_take (i := 11) (v := ?v11x19) rfl (by kernel_rfl) (by kernel_rfl) (by kernel_rfl) (fun _ _ _ h => h) (Or.inl ⟨by rfl, ?hy11x19⟩) (by assumption) ?rest11x19; case hy11x19 => (intro w hSw; (try dsimp only at hSw); go_split_ands; go_simp; (try with_reducible rfl)))
     try simp only [Act.put, pu1, pu2, pu3, pu4, pu5, pu6]
     refine wpAnyH_done (by kernel_rfl) ?_ _
     clear hHeld
     go_wp2_with fail
     go_meet
     exact ⟨W6.heap.size, rfl, rfl, by omega, (Array.getElem?_eq_some_iff.1 r_x8.out).1, D8.out, W5.heap.size, W6.heap.size, ao_x, L_x, cap_x, by omega, by omega, by omega, o_x8.out, by omega, r_x8.out⟩
    ·
     go_simp
     refine hK.out _ _ ⟨(keepR (W := W5) hHeld.1 ((Below.refl _ _).alloc (Nat.le_refl _) _)), (keepR (W := W5) hHeld.2 ((Below.refl _ _).alloc (Nat.le_refl _) _))⟩ (fun hHeld => ?_)
     clear hK K
     try simp only [Act.put, pu1, pu2, pu3, pu4, pu5, pu6]
     obtain ⟨W6, HW6, b6, y6, r_x6⟩ : ∃ X, Hid ((W5.alloc (.cells #[.slice none 0 0, .int .i64 0, .string ⟨#[]⟩] 31)) = X) ∧ Below W5.heap.size W5 X ∧ W5.heap.size + 1 ≤ X.heap.size ∧ Hid (X.heap[W5.heap.size]? = some (.cells #[.slice none 0 0, .int .i64 0, .string ⟨#[]⟩] 31 (0, 0))) := ⟨_, rfl, ((Below.refl _ _).alloc (Nat.le_refl _) _), (by show _ ≤ (W5.heap.push _).size; simp), heap_alloc_new W5 _⟩
     have HHW6 := HW6.out
     rw [HHW6] at hHeld ⊢
     clear HHW6
     have z6 : W5.heap.size ≤ W6.heap.size := b6.size
     have B6 : Hid (Below w.heap.size w W6) := B5.out.trans (b6.mono B5.out.size)
     have o_l6 : Hid (Own W6 (w.heap.size) (W1.heap.size) 9 (.slice ao_l L_l cap_l) (ss l)) := Own.later o_l5.out b6 (by omega)
     have o_n6 : Hid (Own W6 (W4.heap.size) (W5.heap.size) 9 (.slice ao_n L_n cap_n) (ss [])) := Own.later o_n5.out b6 (by omega)
     have c_x6_0 : W6.cell? ⟨W5.heap.size, 0, none⟩ = some (.slice none 0 0) := row_at r_x6.out 0
     have c_x6_1 : W6.cell? ⟨W5.heap.size, 1, none⟩ = some (.int .i64 0) := row_at r_x6.out 1
     have c_x6_2 : W6.cell? ⟨W5.heap.size, 2, none⟩ = some (.string ⟨#[]⟩) := row_at r_x6.out 2
     clear o_l5 o_n5
     have f_t6 : Hid (Sh W6 (.slice (some ⟨W3.heap.size, 0, none⟩) 1 1) [M]) := Sh.later f_t5.out b6
     clear f_t5
     have D6 : Hid (Below W3.heap.size W3 W6) := D5.out.trans (b6.mono D5.out.size)
     refine wpAnyH_ready (rs := [5]) (by kernel_rfl) (by simp) ?_
     refine AllReadyH.cons rfl (fun K hK => ?_) AllReadyH.nil
     go_simp
     refine (q3 W6 _ _ _ B6.out o_n6.out.sl f_t6.out o_l6.out.sl).mono ?_
     rintro e W7 ⟨v_x, rfl, o_x7, b7⟩
     refine hK.out _ _ ⟨(keepR (W := W6) hHeld.1 b7), (keepR (W := W6) hHeld.2 b7)⟩ (fun hHeld => ?_)
     clear hK K
     try simp only [Act.put, pu1, pu2, pu3, pu4, pu5, pu6]
     obtain ⟨ao_x, L_x, cap_x, rfl, hL_x, hM_x⟩ := o_x7.form
     have o_x7 : Hid (Own W7 W6.heap.size W7.heap.size 9 (.slice ao_x L_x cap_x) (ss l)) := o_x7
     clear hL_x hM_x
     have z7 : W6.heap.size ≤ W7.heap.size := b7.size
     have B7 : Hid (Below w.heap.size w W7) := B6.out.trans (b7.mono B6.out.size)
     have r_x7 : Hid (W7.heap[W5.heap.size]? = some (.cells #[.slice none 0 0, .int .i64 0, .string ⟨#[]⟩] 31 (0, 0))) := rowKeep r_x6.out b7
     have o_l7 : Hid (Own W7 (w.heap.size) (W1.heap.size) 9 (.slice ao_l L_l cap_l) (ss l)) := Own.later o_l6.out b7 (by omega)
     have o_n7 : Hid (Own W7 (W4.heap.size) (W5.heap.size) 9 (.slice ao_n L_n cap_n) (ss [])) := Own.later o_n6.out b7 (by omega)
     have c_x7_0 : W7.cell? ⟨W5.heap.size, 0, none⟩ = some (.slice none 0 0) := row_at r_x7.out 0
     have c_x7_1 : W7.cell? ⟨W5.heap.size, 1, none⟩ = some (.int .i64 0) := row_at r_x7.out 1
     have c_x7_2 : W7.cell? ⟨W5.heap.size, 2, none⟩ = some (.string ⟨#[]⟩) := row_at r_x7.out 2
     clear r_x6 c_x6_0 c_x6_1 c_x6_2 o_l6 o_n6
     have f_t7 : Hid (Sh W7 (.slice (some ⟨W3.heap.size, 0, none⟩) 1 1) [M]) := Sh.later f_t6.out b7
     clear f_t6
     have D7 : Hid (Below W3.heap.size W3 W7) := D6.out.trans (b7.mono D6.out.size)
     (refine wpAnyH_take (i := 6) (v := ?v6x20) rfl (by kernel_rfl) (by kernel_rfl) (by kernel_rfl) (fun _ _ _ h => h) (Or.inl ⟨by rfl, ?hy6x20⟩) (by assumption) ?rest6x20; case hy6x20 => (intro w hSw; (try dsimp only at hSw); go_split_ands; go_simp; (try with_reducible rfl)))
     try simp only [Act.put, pu1, pu2, pu3, pu4, pu5, pu6]
     (refine wpAnyH_take (i := 7) (v := ?v7x21) rfl (by kernel_rfl) (by kernel_rfl) (by kernel_rfl) (fun _ _ _ h => h) (Or.inl ⟨by rfl, ?hy7x21⟩) (by assumption) ?rest7x21; case hy7x21 => (intro w hSw; (try dsimp only at hSw); go_split_ands; go_simp; (try with_reducible rfl)))
     try simp only [Act.put, pu1, pu2, pu3, pu4, pu5, pu6]
     (refine wpAnyH_take (i := 8) (v := ?v8x22) rfl (by kernel_rfl) (by kernel_rfl) (by kernel_rfl) (fun _ _ _ h => h) (Or.inl ⟨by rfl, ?hy8x22⟩) (by assumption) ?rest8x22; case hy8x22 => (intro w hSw; (try dsimp only at hSw); go_split_ands; go_simp; (try with_reducible rfl)))
     try simp only [Act.put, pu1, pu2, pu3, pu4, pu5, pu6]
     refine wpAnyH_ready (rs := [10]) (by kernel_rfl) (by simp) ?_
     refine AllReadyH.cons rfl (fun K hK => ?_) AllReadyH.nil
     rw [if_pos (by rfl)]
     refine wp_store_row 31 _ _ rfl (W5.heap.size) (lc (.slice ao_x L_x cap_x) M) rfl rfl 31 _ r_x7.out (sizeL _ _) rfl (oneL _ rfl) ?_
     refine hK.out _ _ ⟨(cell_row (by show W2.heap.size ≠ W5.heap.size; omega) hHeld.1), (cell_row (by show W2.heap.size ≠ W5.heap.size; omega) hHeld.2)⟩ (fun hHeld => ?_)
     clear hK K
     try simp only [Act.put, pu1, pu2, pu3, pu4, pu5, pu6]
     have D8a : Below W3.heap.size W3 (W7.setRow (W5.heap.size) (lc (.slice ao_x L_x cap_x) M)) := below_setRow D7.out (by omega) _
     obtain ⟨W8, HW8⟩ : ∃ X, Hid (W7.setRow (W5.heap.size) (lc (.slice ao_x L_x cap_x) M) = X) := ⟨_, rfl⟩
     have z8 : W7.heap.size ≤ W8.heap.size := by rw [← HW8.out]; simp
     have B8 : Hid (Below w.heap.size w W8) := by show Below _ _ _; rw [← HW8.out]; exact below_setRow B7.out (by have := B7.out.size; omega) _
     have o_l8 : Hid (Own W8 (w.heap.size) (W1.heap.size) 9 (.slice ao_l L_l cap_l) (ss l)) := by show Own _ _ _ _ _ _; rw [← HW8.out]; exact Own.setRow o_l7.out _ (by omega)
     have o_n8 : Hid (Own W8 (W4.heap.size) (W5.heap.size) 9 (.slice ao_n L_n cap_n) (ss [])) := by show Own _ _ _ _ _ _; rw [← HW8.out]; exact Own.setRow o_n7.out _ (by omega)
     have o_x8 : Hid (Own W8 (W6.heap.size) (W7.heap.size) 9 (.slice ao_x L_x cap_x) (ss l)) := by show Own _ _ _ _ _ _; rw [← HW8.out]; exact Own.setRow o_x7.out _ (by omega)
     have r_x8 : Hid (W8.heap[W5.heap.size]? = some (.cells #[.slice ao_x L_x cap_x, .int .i64 M.n, .string M.r] 31 (0, 0))) := by show _ = _; rw [← HW8.out]; exact setRow_heap _ _ _ _ _ (0, 0) r_x7.out
     rw [HW8.out]
     clear r_x7 c_x7_0 c_x7_1 c_x7_2 o_l7 o_n7 o_x7
     have c_x8_0 : W8.cell? ⟨W5.heap.size, 0, none⟩ = some (.slice ao_x L_x cap_x) := row_at r_x8.out 0
     have c_x8_1 : W8.cell? ⟨W5.heap.size, 1, none⟩ = some (.int .i64 M.n) := row_at r_x8.out 1
     have c_x8_2 : W8.cell? ⟨W5.heap.size, 2, none⟩ = some (.string M.r) := row_at r_x8.out 2
     rw [HW8.out] at hHeld
     have D8 : Hid (Below W3.heap.size W3 W8) := by show Below _ _ _; rw [← HW8.out]; exact D8a
     (refine wpAnyH_take (i := 11) (v := ?v11x23) rfl (by kernel_rfl) (by kernel_rfl) (by kernel_rfl) (fun _ _ _ h => h) (Or.inl ⟨by rfl, ?hy11x23⟩) (by assumption) ?rest11x23; case hy11x23 => (intro w hSw; (try dsimp only at hSw); go_split_ands; go_simp; (try with_reducible rfl)))
     try simp only [Act.put, pu1, pu2, pu3, pu4, pu5, pu6]
     refine wpAnyH_done (by kernel_rfl) ?_ _
     clear hHeld
     go_wp2_with fail
     go_meet
     exact ⟨W5.heap.size, rfl, rfl, by omega, (Array.getElem?_eq_some_iff.1 r_x8.out).1, D8.out, W6.heap.size, W7.heap.size, ao_x, L_x, cap_x, by omega, by omega, by omega, o_x8.out, by omega, r_x8.out⟩
   ·
    go_simp
    refine hK.out _ _ ⟨(keepR (W := W4) hHeld.1 ((Below.refl _ _).alloc (Nat.le_refl _) _)), (keepR (W := W4) hHeld.2 ((Below.refl _ _).alloc (Nat.le_refl _) _))⟩ (fun hHeld => ?_)
    clear hK K
    try simp only [Act.put, pu1, pu2, pu3, pu4, pu5, pu6]
    obtain ⟨W5, HW5, b5, y5, r_x5⟩ : ∃ X, Hid ((W4.alloc (.cells #[.slice none 0 0, .int .i64 0, .string ⟨#[]⟩] 31)) = X) ∧ Below W4.heap.size W4 X ∧ W4.heap.size + 1 ≤ X.heap.size ∧ Hid (X.heap[W4.heap.size]? = some (.cells #[.slice none 0 0, .int .i64 0, .string ⟨#[]⟩] 31 (0, 0))) := ⟨_, rfl, ((Below.refl _ _).alloc (Nat.le_refl _) _), (by show _ ≤ (W4.heap.push _).size; simp), heap_alloc_new W4 _⟩
    have HHW5 := HW5.out
    rw [HHW5] at hHeld ⊢
    clear HHW5
    have z5 : W4.heap.size ≤ W5.heap.size := b5.size
    have B5 : Hid (Below w.heap.size w W5) := B4.out.trans (b5.mono B4.out.size)
    have o_l5 : Hid (Own W5 (w.heap.size) (W1.heap.size) 9 (.slice ao_l L_l cap_l) (ss l)) := Own.later o_l4.out b5 (by omega)
    have c_x5_0 : W5.cell? ⟨W4.heap.size, 0, none⟩ = some (.slice none 0 0) := row_at r_x5.out 0
    have c_x5_1 : W5.cell? ⟨W4.heap.size, 1, none⟩ = some (.int .i64 0) := row_at r_x5.out 1
    have c_x5_2 : W5.cell? ⟨W4.heap.size, 2, none⟩ = some (.string ⟨#[]⟩) := row_at r_x5.out 2
    clear o_l4
    have f_t5 : Hid (Sh W5 (.slice (some ⟨W3.heap.size, 0, none⟩) 1 1) [M]) := Sh.later f_t4.out b5
    clear f_t4
    have D5 : Hid (Below W3.heap.size W3 W5) := D4.out.trans (b5.mono D4.out.size)
    refine wpAnyH_ready (rs := [0]) (by kernel_rfl) (by simp) ?_
    refine AllReadyH.cons rfl (fun K hK => ?_) AllReadyH.nil
    go_simp
    refine (iNew W5 B5.out).mono ?_
    rintro e W6 ⟨v_n, rfl, o_n6, b6⟩
    refine hK.out _ _ ⟨(keepR (W := W5) hHeld.1 b6), (keepR (W := W5) hHeld.2 b6)⟩ (fun hHeld => ?_)
    clear hK K
    try simp only [Act.put, pu1, pu2, pu3, pu4, pu5, pu6]
    obtain ⟨ao_n, L_n, cap_n, rfl, hL_n, hM_n⟩ := o_n6.form
    have o_n6 : Hid (Own W6 W5.heap.size W6.heap.size 9 (.slice ao_n L_n cap_n) (ss [])) := o_n6
    clear hL_n hM_n
    have z6 : W5.heap.size ≤ W6.heap.size := b6.size
    have B6 : Hid (Below w.heap.size w W6) := B5.out.trans (b6.mono B5.out.size)
    have r_x6 : Hid (W6.heap[W4.heap.size]? = some (.cells #[.slice none 0 0, .int .i64 0, .string ⟨#[]⟩] 31 (0, 0))) := rowKeep r_x5.out b6
    have o_l6 : Hid (Own W6 (w.heap.size) (W1.heap.size) 9 (.slice ao_l L_l cap_l) (ss l)) := Own.later o_l5.out b6 (by omega)
    have c_x6_0 : W6.cell? ⟨W4.heap.size, 0, none⟩ = some (.slice none 0 0) := row_at r_x6.out 0
    have c_x6_1 : W6.cell? ⟨W4.heap.size, 1, none⟩ = some (.int .i64 0) := row_at r_x6.out 1
    have c_x6_2 : W6.cell? ⟨W4.heap.size, 2, none⟩ = some (.string ⟨#[]⟩) := row_at r_x6.out 2
    clear r_x5 c_x5_0 c_x5_1 c_x5_2 o_l5
    have f_t6 : Hid (Sh W6 (.slice (some ⟨W3.heap.size, 0, none⟩) 1 1) [M]) := Sh.later f_t5.out b6
    clear f_t5
    have D6 : Hid (Below W3.heap.size W3 W6) := D5.out.trans (b6.mono D5.out.size)
    refine wpAnyH_ready (rs := [5]) (by kernel_rfl) (by simp) ?_
    refine AllReadyH.cons rfl (fun K hK => ?_) AllReadyH.nil
    go_simp
    refine (q3 W6 _ _ _ B6.out o_n6.out.sl f_t6.out o_l6.out.sl).mono ?_
    rintro e W7 ⟨v_x, rfl, o_x7, b7⟩
    refine hK.out _ _ ⟨(keepR (W := W6) hHeld.1 b7), (keepR (W := W6) hHeld.2 b7)⟩ (fun hHeld => ?_)
    clear hK K
    try simp only [Act.put, pu1, pu2, pu3, pu4, pu5, pu6]
    obtain ⟨ao_x, L_x, cap_x, rfl, hL_x, hM_x⟩ := o_x7.form
    have o_x7 : Hid (Own W7 W6.heap.size W7.heap.size 9 (.slice ao_x L_x cap_x) (ss l)) := o_x7
    clear hL_x hM_x
    have z7 : W6.heap.size ≤ W7.heap.size := b7.size
    have B7 : Hid (Below w.heap.size w W7) := B6.out.trans (b7.mono B6.out.size)
    have r_x7 : Hid (W7.heap[W4.heap.size]? = some (.cells #[.slice none 0 0, .int .i64 0, .string ⟨#[]⟩] 31 (0, 0))) := rowKeep r_x6.out b7
    have o_l7 : Hid (Own W7 (w.heap.size) (W1.heap.size) 9 (.slice ao_l L_l cap_l) (ss l)) := Own.later o_l6.out b7 (by omega)
    have o_n7 : Hid (Own W7 (W5.heap.size) (W6.heap.size) 9 (.slice ao_n L_n cap_n) (ss [])) := Own.later o_n6.out b7 (by omega)
    have c_x7_0 : W7.cell? ⟨W4.heap.size, 0, none⟩ = some (.slice none 0 0) := row_at r_x7.out 0
    have c_x7_1 : W7.cell? ⟨W4.heap.size, 1, none⟩ = some (.int .i64 0) := row_at r_x7.out 1
    have c_x7_2 : W7.cell? ⟨W4.heap.size, 2, none⟩ = some (.string ⟨#[]⟩) := row_at r_x7.out 2
    clear r_x6 c_x6_0 c_x6_1 c_x6_2 o_l6 o_n6
    have f_t7 : Hid (Sh W7 (.slice (some ⟨W3.heap.size, 0, none⟩) 1 1) [M]) := Sh.later f_t6.out b7
    clear f_t6
    have D7 : Hid (Below W3.heap.size W3 W7) := D6.out.trans (b7.mono D6.out.size)
    (refine wpAnyH_take (i := 6) (v := ?v6x24) rfl (by kernel_rfl) (by kernel_rfl) (by kernel_rfl) (fun _ _ _ h => h) (Or.inl ⟨by rfl, ?hy6x24⟩) (by assumption) ?rest6x24; case hy6x24 => (intro w hSw; (try dsimp only at hSw); go_split_ands; go_simp; (try with_reducible rfl)))
    try simp only [Act.put, pu1, pu2, pu3, pu4, pu5, pu6]
    (refine wpAnyH_take (i := 7) (v := ?v7x25) rfl (by kernel_rfl) (by kernel_rfl) (by kernel_rfl) (fun _ _ _ h => h) (Or.inl ⟨by rfl, ?hy7x25⟩) (by assumption) ?rest7x25; case hy7x25 => (intro w hSw; (try dsimp only at hSw); go_split_ands; go_simp; (try with_reducible rfl)))
    try simp only [Act.put, pu1, pu2, pu3, pu4, pu5, pu6]
    (refine wpAnyH_take (i := 8) (v := ?v8x26) rfl (by kernel_rfl) (by kernel_rfl) (by kernel_rfl) (fun _ _ _ h => h) (Or.inl ⟨by rfl, ?hy8x26⟩) (by assumption) ?rest8x26; case hy8x26 => (intro w hSw; (try dsimp only at hSw); go_split_ands; go_simp; (try with_reducible rfl)))
    try simp only [Act.put, pu1, pu2, pu3, pu4, pu5, pu6]
    refine wpAnyH_ready (rs := [10]) (by kernel_rfl) (by simp) ?_
    refine AllReadyH.cons rfl (fun K hK => ?_) AllReadyH.nil
    rw [if_pos (by rfl)]
    refine wp_store_row 31 _ _ rfl (W4.heap.size) (lc (.slice ao_x L_x cap_x) M) rfl rfl 31 _ r_x7.out (sizeL _ _) rfl (oneL _ rfl) ?_
    refine hK.out _ _ ⟨(cell_row (by show W2.heap.size ≠ W4.heap.size; omega) hHeld.1), (cell_row (by show W2.heap.size ≠ W4.heap.size; omega) hHeld.2)⟩ (fun hHeld => ?_)
    clear hK K
    try simp only [Act.put, pu1, pu2, pu3, pu4, pu5, pu6]
    have D8a : Below W3.heap.size W3 (W7.setRow (W4.heap.size) (lc (.slice ao_x L_x cap_x) M)) := below_setRow D7.out (by omega) _
    obtain ⟨W8, HW8⟩ : ∃ X, Hid (W7.setRow (W4.heap.size) (lc (.slice ao_x L_x cap_x) M) = X) := ⟨_, rfl⟩
    have z8 : W7.heap.size ≤ W8.heap.size := by rw [← HW8.out]; simp
    have B8 : Hid (Below w.heap.size w W8) := by show Below _ _ _; rw [← HW8.out]; exact below_setRow B7.out (by have := B7.out.size; omega) _
    have o_l8 : Hid (Own W8 (w.heap.size) (W1.heap.size) 9 (.slice ao_l L_l cap_l) (ss l)) := by show Own _ _ _ _ _ _; rw [← HW8.out]; exact Own.setRow o_l7.out _ (by omega)
    have o_n8 : Hid (Own W8 (W5.heap.size) (W6.heap.size) 9 (.slice ao_n L_n cap_n) (ss [])) := by show Own _ _ _ _ _ _; rw [← HW8.out]; exact Own.setRow o_n7.out _ (by omega)
    have o_x8 : Hid (Own W8 (W6.heap.size) (W7.heap.size) 9 (.slice ao_x L_x cap_x) (ss l)) := by show Own _ _ _ _ _ _; rw [← HW8.out]; exact Own.setRow o_x7.out _ (by omega)
    have r_x8 : Hid (W8.heap[W4.heap.size]? = some (.cells #[.slice ao_x L_x cap_x, .int .i64 M.n, .string M.r] 31 (0, 0))) := by show _ = _; rw [← HW8.out]; exact setRow_heap _ _ _ _ _ (0, 0) r_x7.out
    rw [HW8.out]
    clear r_x7 c_x7_0 c_x7_1 c_x7_2 o_l7 o_n7 o_x7
    have c_x8_0 : W8.cell? ⟨W4.heap.size, 0, none⟩ = some (.slice ao_x L_x cap_x) := row_at r_x8.out 0
    have c_x8_1 : W8.cell? ⟨W4.heap.size, 1, none⟩ = some (.int .i64 M.n) := row_at r_x8.out 1
    have c_x8_2 : W8.cell? ⟨W4.heap.size, 2, none⟩ = some (.string M.r) := row_at r_x8.out 2
    rw [HW8.out] at hHeld
    have D8 : Hid (Below W3.heap.size W3 W8) := by show Below _ _ _; rw [← HW8.out]; exact D8a
    (refine wpAnyH_take (i := 11) (v := ?v11x27) rfl (by kernel_rfl) (by kernel_rfl) (by kernel_rfl) (fun _ _ _ h => h) (Or.inl ⟨by rfl, ?hy11x27⟩) (by assumption) ?rest11x27; case hy11x27 => (intro w hSw; (try dsimp only at hSw); go_split_ands; go_simp; (try with_reducible rfl)))
    try simp only [Act.put, pu1, pu2, pu3, pu4, pu5, pu6]
    refine wpAnyH_done (by kernel_rfl) ?_ _
    clear hHeld
    go_wp2_with fail
    go_meet
    exact ⟨W4.heap.size, rfl, rfl, by omega, (Array.getElem?_eq_some_iff.1 r_x8.out).1, D8.out, W6.heap.size, W7.heap.size, ao_x, L_x, cap_x, by omega, by omega, by omega, o_x8.out, by omega, r_x8.out⟩
  ·
   go_simp
   refine hK.out _ _ ⟨(keepR (W := W3.drew) hHeld.1 ((Below.refl _ _).alloc (Nat.le_refl _) _)), (keepR (W := W3.drew) hHeld.2 ((Below.refl _ _).alloc (Nat.le_refl _) _))⟩ (fun hHeld => ?_)
   clear hK K
   try simp only [Act.put, pu1, pu2, pu3, pu4, pu5, pu6]
   obtain ⟨W4, HW4, b4, y4, r_x4⟩ : ∃ X, Hid ((W3.alloc (.cells #[.slice none 0 0, .int .i64 0, .string ⟨#[]⟩] 31)).drew = X) ∧ Below W3.heap.size W3 X ∧ W3.heap.size + 1 ≤ X.heap.size ∧ Hid (X.heap[W3.heap.size]? = some (.cells #[.slice none 0 0, .int .i64 0, .string ⟨#[]⟩] 31 (0, 0))) := ⟨_, rfl, (Below.drew ((Below.refl _ _).alloc (Nat.le_refl _) _)), (by show _ ≤ (W3.heap.push _).size; simp), heap_alloc_new W3 _⟩
   have HHW4 := HW4.out
   rw [HHW4] at hHeld ⊢
   clear HHW4
   have z4 : W3.heap.size ≤ W4.heap.size := b4.size
   have B4 : Hid (Below w.heap.size w W4) := B3.out.trans (b4.mono B3.out.size)
   have o_l4 : Hid (Own W4 (w.heap.size) (W1.heap.size) 9 (.slice ao_l L_l cap_l) (ss l)) := Own.later o_l3.out b4 (by omega)
   have c_x4_0 : W4.cell? ⟨W3.heap.size, 0, none⟩ = some (.slice none 0 0) := row_at r_x4.out 0
   have c_x4_1 : W4.cell? ⟨W3.heap.size, 1, none⟩ = some (.int .i64 0) := row_at r_x4.out 1
   have c_x4_2 : W4.cell? ⟨W3.heap.size, 2, none⟩ = some (.string ⟨#[]⟩) := row_at r_x4.out 2
   clear o_l3
   have D4 : Hid (Below W3.heap.size W3 W4) := D3.out.trans (b4.mono D3.out.size)
   refine wpAnyH_ready (rs := [0, 2]) (by kernel_rfl) (by simp) ?_
   refine AllReadyH.cons rfl (fun K hK => ?_) (AllReadyH.cons rfl (fun K hK => ?_) AllReadyH.nil)
   ·
    go_simp
    refine (iNew W4 B4.out).mono ?_
    rintro e W5 ⟨v_n, rfl, o_n5, b5⟩
    refine hK.out _ _ ⟨(keepR (W := W4) hHeld.1 b5), (keepR (W := W4) hHeld.2 b5)⟩ (fun hHeld => ?_)
    clear hK K
    try simp only [Act.put, pu1, pu2, pu3, pu4, pu5, pu6]
    obtain ⟨ao_n, L_n, cap_n, rfl, hL_n, hM_n⟩ := o_n5.form
    have o_n5 : Hid (Own W5 W4.heap.size W5.heap.size 9 (.slice ao_n L_n cap_n) (ss [])) := o_n5
    clear hL_n hM_n
    have z5 : W4.heap.size ≤ W5.heap.size := b5.size
    have B5 : Hid (Below w.heap.size w W5) := B4.out.trans (b5.mono B4.out.size)
    have r_x5 : Hid (W5.heap[W3.heap.size]? = some (.cells #[.slice none 0 0, .int .i64 0, .string ⟨#[]⟩] 31 (0, 0))) := rowKeep r_x4.out b5
    have o_l5 : Hid (Own W5 (w.heap.size) (W1.heap.size) 9 (.slice ao_l L_l cap_l) (ss l)) := Own.later o_l4.out b5 (by omega)
    have c_x5_0 : W5.cell? ⟨W3.heap.size, 0, none⟩ = some (.slice none 0 0) := row_at r_x5.out 0
    have c_x5_1 : W5.cell? ⟨W3.heap.size, 1, none⟩ = some (.int .i64 0) := row_at r_x5.out 1
    have c_x5_2 : W5.cell? ⟨W3.heap.size, 2, none⟩ = some (.string ⟨#[]⟩) := row_at r_x5.out 2
    clear r_x4 c_x4_0 c_x4_1 c_x4_2 o_l4
    have D5 : Hid (Below W3.heap.size W3 W5) := D4.out.trans (b5.mono D4.out.size)
    refine wpAnyH_ready (rs := [2]) (by kernel_rfl) (by simp) ?_
    refine AllReadyH.cons rfl (fun K hK => ?_) AllReadyH.nil
    go_simp
    refine hK.out _ _ ⟨(keepR (W := W5) hHeld.1 ((Below.refl _ _).alloc (Nat.le_refl _) _)), (keepR (W := W5) hHeld.2 ((Below.refl _ _).alloc (Nat.le_refl _) _))⟩ (fun hHeld => ?_)
    clear hK K
    try simp only [Act.put, pu1, pu2, pu3, pu4, pu5, pu6]
    obtain ⟨W6, HW6, b6, ff6⟩ : ∃ X, Hid ((W5.alloc (.cells #[.int .i64 M.n, .string M.r] 28)) = X) ∧ Below W5.heap.size W5 X ∧ Hid (Sh X (.slice (some ⟨W5.heap.size, 0, none⟩) 1 1) [M]) := ⟨_, rfl, ((Below.refl _ _).alloc (Nat.le_refl _) _), Sh.one W5 M⟩
    have HHW6 := HW6.out
    rw [HHW6] at hHeld ⊢
    clear HHW6
    have z6 : W5.heap.size ≤ W6.heap.size := b6.size
    have B6 : Hid (Below w.heap.size w W6) := B5.out.trans (b6.mono B5.out.size)
    have r_x6 : Hid (W6.heap[W3.heap.size]? = some (.cells #[.slice none 0 0, .int .i64 0, .string ⟨#[]⟩] 31 (0, 0))) := rowKeep r_x5.out b6
    have o_l6 : Hid (Own W6 (w.heap.size) (W1.heap.size) 9 (.slice ao_l L_l cap_l) (ss l)) := Own.later o_l5.out b6 (by omega)
    have o_n6 : Hid (Own W6 (W4.heap.size) (W5.heap.size) 9 (.slice ao_n L_n cap_n) (ss [])) := Own.later o_n5.out b6 (by omega)
    have c_x6_0 : W6.cell? ⟨W3.heap.size, 0, none⟩ = some (.slice none 0 0) := row_at r_x6.out 0
    have c_x6_1 : W6.cell? ⟨W3.heap.size, 1, none⟩ = some (.int .i64 0) := row_at r_x6.out 1
    have c_x6_2 : W6.cell? ⟨W3.heap.size, 2, none⟩ = some (.string ⟨#[]⟩) := row_at r_x6.out 2
    clear r_x5 c_x5_0 c_x5_1 c_x5_2 o_l5 o_n5
    have D6 : Hid (Below W3.heap.size W3 W6) := D5.out.trans (b6.mono D5.out.size)
    have f_t6 : Hid (Sh W6 (.slice (some ⟨W5.heap.size, 0, none⟩) 1 1) [M]) := ff6.out
    clear ff6
    refine wpAnyH_ready (rs := [5]) (by kernel_rfl) (by simp) ?_
    refine AllReadyH.cons rfl (fun K hK => ?_) AllReadyH.nil
    go_simp
    refine (q3 W6 _ _ _ B6.out o_n6.out.sl f_t6.out o_l6.out.sl).mono ?_
    rintro e W7 ⟨v_x, rfl, o_x7, b7⟩
    refine hK.out _ _ ⟨(keepR (W := W6) hHeld.1 b7), (keepR (W := W6) hHeld.2 b7)⟩ (fun hHeld => ?_)
    clear hK K
    try simp only [Act.put, pu1, pu2, pu3, pu4, pu5, pu6]
    obtain ⟨ao_x, L_x, cap_x, rfl, hL_x, hM_x⟩ := o_x7.form
    have o_x7 : Hid (Own W7 W6.heap.size W7.heap.size 9 (.slice ao_x L_x cap_x) (ss l)) := o_x7
    clear hL_x hM_x
    have z7 : W6.heap.size ≤ W7.heap.size := b7.size
    have B7 : Hid (Below w.heap.size w W7) := B6.out.trans (b7.mono B6.out.size)
    have r_x7 : Hid (W7.heap[W3.heap.size]? = some (.cells #[.slice none 0 0, .int .i64 0, .string ⟨#[]⟩] 31 (0, 0))) := rowKeep r_x6.out b7
    have o_l7 : Hid (Own W7 (w.heap.size) (W1.heap.size) 9 (.slice ao_l L_l cap_l) (ss l)) := Own.later o_l6.out b7 (by omega)
    have o_n7 : Hid (Own W7 (W4.heap.size) (W5.heap.size) 9 (.slice ao_n L_n cap_n) (ss [])) := Own.later o_n6.out b7 (by omega)
    have c_x7_0 : W7.cell? ⟨W3.heap.size, 0, none⟩ = some (.slice none 0 0) := row_at r_x7.out 0
    have c_x7_1 : W7.cell? ⟨W3.heap.size, 1, none⟩ = some (.int .i64 0) := row_at r_x7.out 1
    have c_x7_2 : W7.cell? ⟨W3.heap.size, 2, none⟩ = some (.string ⟨#[]⟩) := row_at r_x7.out 2
    clear r_x6 c_x6_0 c_x6_1 c_x6_2 o_l6 o_n6
    have f_t7 : Hid (Sh W7 (.slice (some ⟨W5.heap.size, 0, none⟩) 1 1) [M]) := Sh.later f_t6.out b7
    clear f_t6
    have D7 : Hid (Below W3.heap.size W3 W7) := D6.out.trans (b7.mono D6.out.size)
    (refine wpAnyH_take (i := 6) (v := ?v6x28) rfl (by kernel_rfl) (by kernel_rfl) (by kernel_rfl) (fun _ _ _ h => h) (Or.inl ⟨by rfl, ?hy6x28⟩) (by assumption) ?rest6x28; case hy6x28 => (intro w hSw; (try dsimp only at hSw); go_split_ands; go_simp; (try with_reducible rfl)))
    try simp only [Act.put, pu1, pu2, pu3, pu4, pu5, pu6]
    (refine wpAnyH_take (i := 7) (v := ?v7x29) rfl (by kernel_rfl) (by kernel_rfl) (by kernel_rfl) (fun _ _ _ h => h) (Or.inl ⟨by rfl, ?hy7x29⟩) (by assumption) ?rest7x29; case hy7x29 => (intro w hSw; (try dsimp only at hSw); go_split_ands; go_simp; (try with_reducible rfl)))
    try simp only [Act.put, pu1, pu2, pu3, pu4, pu5, pu6]
    (refine wpAnyH_take (i := 8) (v := ?v8x30) rfl (by kernel_rfl) (by kernel_rfl) (by kernel_rfl) (fun _ _ _ h => h) (Or.inl ⟨by rfl, ?hy8x30⟩) (by assumption) ?rest8x30; case hy8x30 => (intro w hSw; (try dsimp only at hSw); go_split_ands; go_simp; (try with_reducible rfl)))
    try simp only [Act.put, pu1, pu2, pu3, pu4, pu5, pu6]
    refine wpAnyH_ready (rs := [10]) (by kernel_rfl) (by simp) ?_
    refine AllReadyH.cons rfl (fun K hK => ?_) AllReadyH.nil
    rw [if_pos (by rfl)]
    refine wp_store_row 31 _ _ rfl (W3.heap.size) (lc (.slice ao_x L_x cap_x) M) rfl rfl 31 _ r_x7.out (sizeL _ _) rfl (oneL _ rfl) ?_
    refine hK.out _ _ ⟨(cell_row (by show W2.heap.size ≠ W3.heap.size; omega) hHeld.1), (cell_row (by show W2.heap.size ≠ W3.heap.size; omega) hHeld.2)⟩ (fun hHeld => ?_)
    clear hK K
    try simp only [Act.put, pu1, pu2, pu3, pu4, pu5, pu6]
    have D8a : Below W3.heap.size W3 (W7.setRow (W3.heap.size) (lc (.slice ao_x L_x cap_x) M)) := below_setRow D7.out (by omega) _
    obtain ⟨W8, HW8⟩ : ∃ X, Hid (W7.setRow (W3.heap.size) (lc (.slice ao_x L_x cap_x) M) = X) := ⟨_, rfl⟩
    have z8 : W7.heap.size ≤ W8.heap.size := by rw [← HW8.out]; simp
    have B8 : Hid (Below w.heap.size w W8) := by show Below _ _ _; rw [← HW8.out]; exact below_setRow B7.out (by have := B7.out.size; omega) _
    have o_l8 : Hid (Own W8 (w.heap.size) (W1.heap.size) 9 (.slice ao_l L_l cap_l) (ss l)) := by show Own _ _ _ _ _ _; rw [← HW8.out]; exact Own.setRow o_l7.out _ (by omega)
    have o_n8 : Hid (Own W8 (W4.heap.size) (W5.heap.size) 9 (.slice ao_n L_n cap_n) (ss [])) := by show Own _ _ _ _ _ _; rw [← HW8.out]; exact Own.setRow o_n7.out _ (by omega)
    have o_x8 : Hid (Own W8 (W6.heap.size) (W7.heap.size) 9 (.slice ao_x L_x cap_x) (ss l)) := by show Own _ _ _ _ _ _; rw [← HW8.out]; exact Own.setRow o_x7.out _ (by omega)
    have r_x8 : Hid (W8.heap[W3.heap.size]? = some (.cells #[.slice ao_x L_x cap_x, .int .i64 M.n, .string M.r] 31 (0, 0))) := by show _ = _; rw [← HW8.out]; exact setRow_heap _ _ _ _ _ (0, 0) r_x7.out
    rw [HW8.out]
    clear r_x7 c_x7_0 c_x7_1 c_x7_2 o_l7 o_n7 o_x7
    have c_x8_0 : W8.cell? ⟨W3.heap.size, 0, none⟩ = some (.slice ao_x L_x cap_x) := row_at r_x8.out 0
    have c_x8_1 : W8.cell? ⟨W3.heap.size, 1, none⟩ = some (.int .i64 M.n) := row_at r_x8.out 1
    have c_x8_2 : W8.cell? ⟨W3.heap.size, 2, none⟩ = some (.string M.r) := row_at r_x8.out 2
    rw [HW8.out] at hHeld
    have D8 : Hid (Below W3.heap.size W3 W8) := by show Below _ _ _; rw [← HW8.out]; exact D8a
    (refine wpAnyH_take (i := 11) (v := ?v11x31) rfl (by kernel_rfl) (by kernel_rfl) (by kernel_rfl) (fun _ _ _ h => h) (Or.inl ⟨by rfl, ?hy11x31⟩) (by assumption) ?rest11x31; case hy11x31 => (intro w hSw; (try dsimp only at hSw); go_split_ands; go_simp; (try with_reducible rfl)))
    try simp only [Act.put, pu1, pu2, pu3, pu4, pu5, pu6]
    refine wpAnyH_done (by kernel_rfl) ?_ _
    clear hHeld
    go_wp2_with fail
    go_meet
    exact ⟨W3.heap.size, rfl, rfl, by omega, (Array.getElem?_eq_some_iff.1 r_x8.out).1, D8.out, W6.heap.size, W7.heap.size, ao_x, L_x, cap_x, by omega, by omega, by omega, o_x8.out, by omega, r_x8.out⟩
   ·
    go_simp
    refine hK.out _ _ ⟨(keepR (W := W4) hHeld.1 ((Below.refl _ _).alloc (Nat.le_refl _) _)), (keepR (W := W4) hHeld.2 ((Below.refl _ _).alloc (Nat.le_refl _) _))⟩ (fun hHeld => ?_)
    clear hK K
    try simp only [Act.put, pu1, pu2, pu3, pu4, pu5, pu6]
    obtain ⟨W5, HW5, b5, ff5⟩ : ∃ X, Hid ((W4.alloc (.cells #[.int .i64 M.n, .string M.r] 28)) = X) ∧ Below W4.heap.size W4 X ∧ Hid (Sh X (.slice (some ⟨W4.heap.size, 0, none⟩) 1 1) [M]) := ⟨_, rfl, ((Below.refl _ _).alloc (Nat.le_refl _) _), Sh.one W4 M⟩
    have HHW5 := HW5.out
    rw [HHW5] at hHeld ⊢
    clear HHW5
    have z5 : W4.heap.size ≤ W5.heap.size := b5.size
    have B5 : Hid (Below w.heap.size w W5) := B4.out.trans (b5.mono B4.out.size)
    have r_x5 : Hid (W5.heap[W3.heap.size]? = some (.cells #[.slice none 0 0, .int .i64 0, .string ⟨#[]⟩] 31 (0, 0))) := rowKeep r_x4.out b5
    have o_l5 : Hid (Own W5 (w.heap.size) (W1.heap.size) 9 (.slice ao_l L_l cap_l) (ss l)) := Own.later o_l4.out b5 (by omega)
    have c_x5_0 : W5.cell? ⟨W3.heap.size, 0, none⟩ = some (.slice none 0 0) := row_at r_x5.out 0
    have c_x5_1 : W5.cell? ⟨W3.heap.size, 1, none⟩ = some (.int .i64 0) := row_at r_x5.out 1
    have c_x5_2 : W5.cell? ⟨W3.heap.size, 2, none⟩ = some (.string ⟨#[]⟩) := row_at r_x5.out 2
    clear r_x4 c_x4_0 c_x4_1 c_x4_2 o_l4
    have D5 : Hid (Below W3.heap.size W3 W5) := D4.out.trans (b5.mono D4.out.size)
    have f_t5 : Hid (Sh W5 (.slice (some ⟨W4.heap.size, 0, none⟩) 1 1) [M]) := ff5.out
    clear ff5
    refine wpAnyH_ready (rs := [0]) (by kernel_rfl) (by simp) ?_
    refine AllReadyH.cons rfl (fun K hK => ?_) AllReadyH.nil
    go_simp
    refine (iNew W5 B5.out).mono ?_
    rintro e W6 ⟨v_n, rfl, o_n6, b6⟩
    refine hK.out _ _ ⟨(keepR (W := W5) hHeld.1 b6), (keepR (W := W5) hHeld.2 b6)⟩ (fun hHeld => ?_)
    clear hK K
    try simp only [Act.put, pu1, pu2, pu3, pu4, pu5, pu6]
    obtain ⟨ao_n, L_n, cap_n, rfl, hL_n, hM_n⟩ := o_n6.form
    have o_n6 : Hid (Own W6 W5.heap.size W6.heap.size 9 (.slice ao_n L_n cap_n) (ss [])) := o_n6
    clear hL_n hM_n
    have z6 : W5.heap.size ≤ W6.heap.size := b6.size
    have B6 : Hid (Below w.heap.size w W6) := B5.out.trans (b6.mono B5.out.size)
    have r_x6 : Hid (W6.heap[W3.heap.size]? = some (.cells #[.slice none 0 0, .int .i64 0, .string ⟨#[]⟩] 31 (0, 0))) := rowKeep r_x5.out b6
    have o_l6 : Hid (Own W6 (w.heap.size) (W1.heap.size) 9 (.slice ao_l L_l cap_l) (ss l)) := Own.later o_l5.out b6 (by omega)
    have c_x6_0 : W6.cell? ⟨W3.heap.size, 0, none⟩ = some (.slice none 0 0) := row_at r_x6.out 0
    have c_x6_1 : W6.cell? ⟨W3.heap.size, 1, none⟩ = some (.int .i64 0) := row_at r_x6.out 1
    have c_x6_2 : W6.cell? ⟨W3.heap.size, 2, none⟩ = some (.string ⟨#[]⟩) := row_at r_x6.out 2
    clear r_x5 c_x5_0 c_x5_1 c_x5_2 o_l5
    have f_t6 : Hid (Sh W6 (.slice (some ⟨W4.heap.size, 0, none⟩) 1 1) [M]) := Sh.later f_t5.out b6
    clear f_t5
    have D6 : Hid (Below W3.heap.size W3 W6) := D5.out.trans (b6.mono D5.out.size)
    refine wpAnyH_ready (rs := [5]) (by kernel_rfl) (by simp) ?_
    refine AllReadyH.cons rfl (fun K hK => ?_) AllReadyH.nil
    go_simp
    refine (q3 W6 _ _ _ B6.out o_n6.out.sl f_t6.out o_l6.out.sl).mono ?_
    rintro e W7 ⟨v_x, rfl, o_x7, b7⟩
    refine hK.out _ _ ⟨(keepR (W := W6) hHeld.1 b7), (keepR (W := W6) hHeld.2 b7)⟩ (fun hHeld => ?_)
    clear hK K
    try simp only [Act.put, pu1, pu2, pu3, pu4, pu5, pu6]
    obtain ⟨ao_x, L_x, cap_x, rfl, hL_x, hM_x⟩ := o_x7.form
    have o_x7 : Hid (Own W7 W6.heap.size W7.heap.size 9 (.slice ao_x L_x cap_x) (ss l)) := o_x7
    clear hL_x hM_x
    have z7 : W6.heap.size ≤ W7.heap.size := b7.size
    have B7 : Hid (Below w.heap.size w W7) := B6.out.trans (b7.mono B6.out.size)
    have r_x7 : Hid (W7.heap[W3.heap.size]? = some (.cells #[.slice none 0 0, .int .i64 0, .string ⟨#[]⟩] 31 (0, 0))) := rowKeep r_x6.out b7
    have o_l7 : Hid (Own W7 (w.heap.size) (W1.heap.size) 9 (.slice ao_l L_l cap_l) (ss l)) := Own.later o_l6.out b7 (by omega)
    have o_n7 : Hid (Own W7 (W5.heap.size) (W6.heap.size) 9 (.slice ao_n L_n cap_n) (ss [])) := Own.later o_n6.out b7 (by omega)
    have c_x7_0 : W7.cell? ⟨W3.heap.size, 0, none⟩ = some (.slice none 0 0) := row_at r_x7.out 0
    have c_x7_1 : W7.cell? ⟨W3.heap.size, 1, none⟩ = some (.int .i64 0) := row_at r_x7.out 1
    have c_x7_2 : W7.cell? ⟨W3.heap.size, 2, none⟩ = some (.string ⟨#[]⟩) := row_at r_x7.out 2
    clear r_x6 c_x6_0 c_x6_1 c_x6_2 o_l6 o_n6
    have f_t7 : Hid (Sh W7 (.slice (some ⟨W4.heap.size, 0, none⟩) 1 1) [M]) := Sh.later f_t6.out b7
    clear f_t6
    have D7 : Hid (Below W3.heap.size W3 W7) := D6.out.trans (b7.mono D6.out.size)
    (refine wpAnyH_take (i := 6) (v := ?v6x32) rfl (by kernel_rfl) (by kernel_rfl) (by kernel_rfl) (fun _ _ _ h => h) (Or.inl ⟨by rfl, ?hy6x32⟩) (by assumption) ?rest6x32; case hy6x32 => (intro w hSw; (try dsimp only at hSw); go_split_ands; go_simp; (try with_reducible rfl)))
    try simp only [Act.put, pu1, pu2, pu3, pu4, pu5, pu6]
    (refine wpAnyH_take (i := 7) (v := ?v7x33) rfl (by kernel_rfl) (by kernel_rfl) (by kernel_rfl) (fun _ _ _ h => h) (Or.inl ⟨by rfl, ?hy7x33⟩) (by assumption) ?rest7x33; case hy7x33 => (intro w hSw; (try dsimp only at hSw); go_split_ands; go_simp; (try with_reducible rfl)))
    try simp only [Act.put, pu1, pu2, pu3, pu4, pu5, pu6]
    (refine wpAnyH_take (i := 8) (v := ?v8x34) rfl (by kernel_rfl) (by kernel_rfl) (by kernel_rfl) (fun _ _ _ h => h) (Or.inl ⟨by rfl, ?hy8x34⟩) (by assumption) ?rest8x34; case hy8x34 => (intro w hSw; (try dsimp only at hSw); go_split_ands; go_simp; (try with_reducible rfl)))
    try simp only [Act.put, pu1, pu2, pu3, pu4, pu5, pu6]
    refine wpAnyH_ready (rs := [10]) (by kernel_rfl) (by simp) ?_
    refine AllReadyH.cons rfl (fun K hK => ?_) AllReadyH.nil
    rw [if_pos (by rfl)]
    refine wp_store_row 31 _ _ rfl (W3.heap.size) (lc (.slice ao_x L_x cap_x) M) rfl rfl 31 _ r_x7.out (sizeL _ _) rfl (oneL _ rfl) ?_
    refine hK.out _ _ ⟨(cell_row (by show W2.heap.size ≠ W3.heap.size; omega) hHeld.1), (cell_row (by show W2.heap.size ≠ W3.heap.size; omega) hHeld.2)⟩ (fun hHeld => ?_)
    clear hK K
    try simp only [Act.put, pu1, pu2, pu3, pu4, pu5, pu6]
    have D8a : Below W3.heap.size W3 (W7.setRow (W3.heap.size) (lc (.slice ao_x L_x cap_x) M)) := below_setRow D7.out (by omega) _
    obtain ⟨W8, HW8⟩ : ∃ X, Hid (W7.setRow (W3.heap.size) (lc (.slice ao_x L_x cap_x) M) = X) := ⟨_, rfl⟩
    have z8 : W7.heap.size ≤ W8.heap.size := by rw [← HW8.out]; simp
    have B8 : Hid (Below w.heap.size w W8) := by show Below _ _ _; rw [← HW8.out]; exact below_setRow B7.out (by have := B7.out.size; omega) _
    have o_l8 : Hid (Own W8 (w.heap.size) (W1.heap.size) 9 (.slice ao_l L_l cap_l) (ss l)) := by show Own _ _ _ _ _ _; rw [← HW8.out]; exact Own.setRow o_l7.out _ (by omega)
    have o_n8 : Hid (Own W8 (W5.heap.size) (W6.heap.size) 9 (.slice ao_n L_n cap_n) (ss [])) := by show Own _ _ _ _ _ _; rw [← HW8.out]; exact Own.setRow o_n7.out _ (by omega)
    have o_x8 : Hid (Own W8 (W6.heap.size) (W7.heap.size) 9 (.slice ao_x L_x cap_x) (ss l)) := by show Own _ _ _ _ _ _; rw [← HW8.out]; exact Own.setRow o_x7.out _ (by omega)
    have r_x8 : Hid (W8.heap[W3.heap.size]? = some (.cells #[.slice ao_x L_x cap_x, .int .i64 M.n, .string M.r] 31 (0, 0))) := by show _ = _; rw [← HW8.out]; exact setRow_heap _ _ _ _ _ (0, 0) r_x7.out
    rw [HW8.out]
    clear r_x7 c_x7_0 c_x7_1 c_x7_2 o_l7 o_n7 o_x7
    have c_x8_0 : W8.cell? ⟨W3.heap.size, 0, none⟩ = some (.slice ao_x L_x cap_x) := row_at r_x8.out 0
    have c_x8_1 : W8.cell? ⟨W3.heap.size, 1, none⟩ = some (.int .i64 M.n) := row_at r_x8.out 1
    have c_x8_2 : W8.cell? ⟨W3.heap.size, 2, none⟩ = some (.string M.r) := row_at r_x8.out 2
    rw [HW8.out] at hHeld
    have D8 : Hid (Below W3.heap.size W3 W8) := by show Below _ _ _; rw [← HW8.out]; exact D8a
    (refine wpAnyH_take (i := 11) (v := ?v11x35) rfl (by kernel_rfl) (by kernel_rfl) (by kernel_rfl) (fun _ _ _ h => h) (Or.inl ⟨by rfl, ?hy11x35⟩) (by assumption) ?rest11x35; case hy11x35 => (intro w hSw; (try dsimp only at hSw); go_split_ands; go_simp; (try with_reducible rfl)))
    try simp only [Act.put, pu1, pu2, pu3, pu4, pu5, pu6]
    refine wpAnyH_done (by kernel_rfl) ?_ _
    clear hHeld
    go_wp2_with fail
    go_meet
    exact ⟨W3.heap.size, rfl, rfl, by omega, (Array.getElem?_eq_some_iff.1 r_x8.out).1, D8.out, W6.heap.size, W7.heap.size, ao_x, L_x, cap_x, by omega, by omega, by omega, o_x8.out, by omega, r_x8.out⟩
 case rest =>
 obtain ⟨g_x, rfl, rfl, hg_x, hg2_x, b4, lo_x, hi_x, ao_x, L_x, cap_x, d1_x, d2_x, d3_x, oo_x, hgf_x, r_x4⟩ := hcut
 revert hg2_x b4 d3_x oo_x r_x4
 generalize wc = W4
 intro hg2_x b4 d3_x oo_x r_x4
 have r_x4 : Hid (W4.heap[g_x]? = some (.cells #[.slice ao_x L_x cap_x, .int .i64 M.n, .string M.r] 31 (0, 0))) := r_x4
 have o_x4 : Hid (Own W4 lo_x hi_x 9 (.slice ao_x L_x cap_x) (ss l)) := oo_x
 clear oo_x
 have z4 : W3.heap.size ≤ W4.heap.size := b4.size
 have B4 : Hid (Below w.heap.size w W4) := B3.out.trans (b4.mono B3.out.size)
 have r_h4 : Hid (W4.heap[W2.heap.size]? = some (.cells #[.int .i64 M.n, .string M.r] 28 (0, 0))) := rowKeep r_h3.out b4
 have o_l4 : Hid (Own W4 (w.heap.size) (W1.heap.size) 9 (.slice ao_l L_l cap_l) (ss l)) := Own.later o_l3.out b4 (by omega)
 have c_h4_0 : W4.cell? ⟨W2.heap.size, 0, none⟩ = some (.int .i64 M.n) := row_at r_h4.out 0
 have c_h4_1 : W4.cell? ⟨W2.heap.size, 1, none⟩ = some (.string M.r) := row_at r_h4.out 1
 have c_x4_0 : W4.cell? ⟨g_x, 0, none⟩ = some (.slice ao_x L_x cap_x) := row_at r_x4.out 0
 have c_x4_1 : W4.cell? ⟨g_x, 1, none⟩ = some (.int .i64 M.n) := row_at r_x4.out 1
 have c_x4_2 : W4.cell? ⟨g_x, 2, none⟩ = some (.string M.r) := row_at r_x4.out 2
 clear r_h3 c_h3_0 c_h3_1 o_l3
 go_upto_region 6 with fail
 go_cut [8, 9] (fun s8 s9 wx => ∃ g : Nat, s8 = (.pointer (some ⟨g, 0, none⟩)) ∧ s9 = .int .i64 0 ∧ W4.heap.size ≤ g ∧ g < wx.heap.size ∧ Below W4.heap.size W4 wx ∧ ∃ lo_s hi_s ao_s L_s cap_s lo_sp hi_sp ao_sp L_sp cap_sp, W4.heap.size ≤ lo_s ∧ lo_s ≤ hi_s ∧ hi_s ≤ wx.heap.size ∧ W4.heap.size ≤ lo_sp ∧ lo_sp ≤ hi_sp ∧ hi_sp ≤ wx.heap.size ∧ (hi_s ≤ lo_sp ∨ hi_sp ≤ lo_s) ∧ Own wx lo_s hi_s 9 (.slice ao_s L_s cap_s) (ss l) ∧ Own wx lo_sp hi_sp 5 (.slice ao_sp L_sp cap_sp) (bs P) ∧ (g < lo_s ∨ hi_s ≤ g) ∧ (g < lo_sp ∨ hi_sp ≤ g) ∧ wx.heap[g]? = some (.cells #[.slice ao_s L_s cap_s, .int .i64 M.n, .string M.r, .slice ao_sp L_sp cap_sp, .int .i64 0] 37 (0, 0)))
 case first =>
  have D4 : Hid (Below W4.heap.size W4 W4) := Below.refl _ _
  refine wp_region_held_drew (S := fun w' => w'.cell? ⟨W2.heap.size, 0, none⟩ = some (.int .i64 M.n) ∧ w'.cell? ⟨W2.heap.size, 1, none⟩ = some (.string M.r)) (by kernel_rfl) ⟨c_h4_0, c_h4_1⟩ (fun hHeld => ?_)
  (refine wpAnyH_take (i := 1) (v := ?v1x36) rfl (by kernel_rfl) (by kernel_rfl) (by kernel_rfl) (fun _ _ _ h => h) (Or.inl ⟨by rfl, ?hy1x36⟩) (by assumption) ?rest1x36; case hy1x36 => (intro w hSw; (try dsimp only at hSw); go_split_ands; go_simp; (try with_reducible rfl)))
  try simp only [Act.put, pu1, pu2, pu3, pu4, pu5, pu6]
  (refine wpAnyH_take (i := 3) (v := ?v3x37) rfl (by kernel_rfl) (by kernel_rfl) (by kernel_rfl) (fun _ _ _ h => h) (Or.inl ⟨by rfl, ?hy3x37⟩) (by assumption) ?rest3x37; case hy3x37 => (intro w hSw; (try dsimp only at hSw); go_split_ands; go_simp; (try with_reducible rfl)))
  try simp only [Act.put, pu1, pu2, pu3, pu4, pu5, pu6]
  (refine wpAnyH_take (i := 4) (v := ?v4x38) rfl (by kernel_rfl) (by kernel_rfl) (by kernel_rfl) (fun _ _ _ h => h) (Or.inl ⟨by rfl, ?hy4x38⟩) (by assumption) ?rest4x38; case hy4x38 => (intro w hSw; (try dsimp only at hSw); go_split_ands; go_simp; (try with_reducible rfl)))
  try simp only [Act.put, pu1, pu2, pu3, pu4, pu5, pu6]
  clear r_h4 c_h4_0 c_h4_1
  clear o_x4
  refine wpAnyH_ready (rs := [0, 2, 9]) (by kernel_rfl) (by simp) ?_
  refine AllReadyH.cons rfl (fun K hK => ?_) (AllReadyH.cons rfl (fun K hK => ?_) (AllReadyH.cons rfl (fun K hK => ?_) AllReadyH.nil))
  ·
   go_simp
   refine (iSNew W4.drew (Below.drew B4.out)).mono ?_
   rintro e W5 ⟨v_n, v_np, rfl, o_n5, o_np5, b5⟩
   have b5 : Below W4.heap.size W4 W5 := (Below.drew (Below.refl _ _)).trans b5
   have o_n5 : Own W5 W4.heap.size W5.heap.size 9 _ _ := o_n5
   have o_np5 : Own W5 W4.heap.size W5.heap.size 5 _ _ := o_np5
   refine hK.out _ _ ⟨(keepR (W := W4) hHeld.1 b5), (keepR (W := W4) hHeld.2 b5)⟩ (fun hHeld => ?_)
   clear hK K
   try simp only [Act.put, pu1, pu2, pu3, pu4, pu5, pu6]
   obtain ⟨lo_n, hi_n, lo_np, hi_np, d1_n, d2_n, d3_n, d4_n, d5_n, d6_n, d7_n, oo_n, oo_np⟩ := Sr.pairN o_n5 o_np5 b5.size
   clear o_n5 o_np5
   obtain ⟨ao_n, L_n, cap_n, rfl, _, _⟩ := oo_n.form
   obtain ⟨ao_np, L_np, cap_np, rfl, _, _⟩ := oo_np.form
   have o_n5 : Hid (Own W5 lo_n hi_n 9 (.slice ao_n L_n cap_n) (ss [])) := oo_n
   have o_np5 : Hid (Own W5 lo_np hi_np 5 (.slice ao_np L_np cap_np) (bs [])) := oo_np
   clear oo_n oo_np
   have z5 : W4.heap.size ≤ W5.heap.size := b5.size
   have B5 : Hid (Below w.heap.size w W5) := B4.out.trans (b5.mono B4.out.size)
   have r_x5 : Hid (W5.heap[g_x]? = some (.cells #[.slice ao_x L_x cap_x, .int .i64 M.n, .string M.r] 31 (0, 0))) := rowKeep r_x4.out b5
   have o_l5 : Hid (Own W5 (w.heap.size) (W1.heap.size) 9 (.slice ao_l L_l cap_l) (ss l)) := Own.later o_l4.out b5 (by omega)
   have c_x5_0 : W5.cell? ⟨g_x, 0, none⟩ = some (.slice ao_x L_x cap_x) := row_at r_x5.out 0
   have c_x5_1 : W5.cell? ⟨g_x, 1, none⟩ = some (.int .i64 M.n) := row_at r_x5.out 1
   have c_x5_2 : W5.cell? ⟨g_x, 2, none⟩ = some (.string M.r) := row_at r_x5.out 2
   clear r_x4 c_x4_0 c_x4_1 c_x4_2 o_l4
   have D5 : Hid (Below W4.heap.size W4 W5) := D4.out.trans (b5.mono D4.out.size)
   refine wpAnyH_ready (rs := [2, 9]) (by kernel_rfl) (by simp) ?_
   refine AllReadyH.cons rfl (fun K hK => ?_) (AllReadyH.cons rfl (fun K hK => ?_) AllReadyH.nil)
   ·
    go_simp
    refine hK.out _ _ ⟨(keepR (W := W5) hHeld.1 ((Below.refl _ _).alloc (Nat.le_refl _) _)), (keepR (W := W5) hHeld.2 ((Below.refl _ _).alloc (Nat.le_refl _) _))⟩ (fun hHeld => ?_)
    clear hK K
    try simp only [Act.put, pu1, pu2, pu3, pu4, pu5, pu6]
    obtain ⟨W6, HW6, b6, ff6⟩ : ∃ X, Hid ((W5.alloc (.cells #[.int .i64 M.n, .string M.r] 28)) = X) ∧ Below W5.heap.size W5 X ∧ Hid (Sh X (.slice (some ⟨W5.heap.size, 0, none⟩) 1 1) [M]) := ⟨_, rfl, ((Below.refl _ _).alloc (Nat.le_refl _) _), Sh.one W5 M⟩
    have HHW6 := HW6.out
    rw [HHW6] at hHeld ⊢
    clear HHW6
    have z6 : W5.heap.size ≤ W6.heap.size := b6.size
    have B6 : Hid (Below w.heap.size w W6) := B5.out.trans (b6.mono B5.out.size)
    have r_x6 : Hid (W6.heap[g_x]? = some (.cells #[.slice ao_x L_x cap_x, .int .i64 M.n, .string M.r] 31 (0, 0))) := rowKeep r_x5.out b6
    have o_l6 : Hid (Own W6 (w.heap.size) (W1.heap.size) 9 (.slice ao_l L_l cap_l) (ss l)) := Own.later o_l5.out b6 (by omega)
    have o_n6 : Hid (Own W6 (lo_n) (hi_n) 9 (.slice ao_n L_n cap_n) (ss [])) := Own.later o_n5.out b6 (by omega)
    have o_np6 : Hid (Own W6 (lo_np) (hi_np) 5 (.slice ao_np L_np cap_np) (bs [])) := Own.later o_np5.out b6 (by omega)
    have c_x6_0 : W6.cell? ⟨g_x, 0, none⟩ = some (.slice ao_x L_x cap_x) := row_at r_x6.out 0
    have c_x6_1 : W6.cell? ⟨g_x, 1, none⟩ = some (.int .i64 M.n) := row_at r_x6.out 1
    have c_x6_2 : W6.cell? ⟨g_x, 2, none⟩ = some (.string M.r) := row_at r_x6.out 2
    clear r_x5 c_x5_0 c_x5_1 c_x5_2 o_l5 o_n5 o_np5
    have D6 : Hid (Below W4.heap.size W4 W6) := D5.out.trans (b6.mono D5.out.size)
    have f_t6 : Hid (Sh W6 (.slice (some ⟨W5.heap.size, 0, none⟩) 1 1) [M]) := ff6.out
    clear ff6
    refine wpAnyH_ready (rs := [5, 9]) (by kernel_rfl) (by simp) ?_
    refine AllReadyH.cons rfl (fun K hK => ?_) (AllReadyH.cons rfl (fun K hK => ?_) AllReadyH.nil)
    ·
     go_simp
     refine (q5 W6 _ _ _ _ B6.out o_n6.out.sl o_np6.out.sl f_t6.out o_l6.out.sl).mono ?_
     rintro e W7 ⟨v_s, v_sp, rfl, o_s7, o_sp7, b7⟩
     refine hK.out _ _ ⟨(keepR (W := W6) hHeld.1 b7), (keepR (W := W6) hHeld.2 b7)⟩ (fun hHeld => ?_)
     clear hK K
     try simp only [Act.put, pu1, pu2, pu3, pu4, pu5, pu6]
     obtain ⟨lo_s, hi_s, lo_sp, hi_sp, d1_s, d2_s, d3_s, d4_s, d5_s, d6_s, d7_s, oo_s, oo_sp⟩ := Sr.pairN o_s7 o_sp7 b7.size
     clear o_s7 o_sp7
     obtain ⟨ao_s, L_s, cap_s, rfl, _, _⟩ := oo_s.form
     obtain ⟨ao_sp, L_sp, cap_sp, rfl, _, _⟩ := oo_sp.form
     have o_s7 : Hid (Own W7 lo_s hi_s 9 (.slice ao_s L_s cap_s) (ss l)) := oo_s
     have o_sp7 : Hid (Own W7 lo_sp hi_sp 5 (.slice ao_sp L_sp cap_sp) (bs P)) := oo_sp
     clear oo_s oo_sp
     have z7 : W6.heap.size ≤ W7.heap.size := b7.size
     have B7 : Hid (Below w.heap.size w W7) := B6.out.trans (b7.mono B6.out.size)
     have r_x7 : Hid (W7.heap[g_x]? = some (.cells #[.slice ao_x L_x cap_x, .int .i64 M.n, .string M.r] 31 (0, 0))) := rowKeep r_x6.out b7
     have o_l7 : Hid (Own W7 (w.heap.size) (W1.heap.size) 9 (.slice ao_l L_l cap_l) (ss l)) := Own.later o_l6.out b7 (by omega)
     have o_n7 : Hid (Own W7 (lo_n) (hi_n) 9 (.slice ao_n L_n cap_n) (ss [])) := Own.later o_n6.out b7 (by omega)
     have o_np7 : Hid (Own W7 (lo_np) (hi_np) 5 (.slice ao_np L_np cap_np) (bs [])) := Own.later o_np6.out b7 (by omega)
     have c_x7_0 : W7.cell? ⟨g_x, 0, none⟩ = some (.slice ao_x L_x cap_x) := row_at r_x7.out 0
     have c_x7_1 : W7.cell? ⟨g_x, 1, none⟩ = some (.int .i64 M.n) := row_at r_x7.out 1
     have c_x7_2 : W7.cell? ⟨g_x, 2, none⟩ = some (.string M.r) := row_at r_x7.out 2
     clear r_x6 c_x6_0 c_x6_1 c_x6_2 o_l6 o_n6 o_np6
     have f_t7 : Hid (Sh W7 (.slice (some ⟨W5.heap.size, 0, none⟩) 1 1) [M]) := Sh.later f_t6.out b7
     clear f_t6
     have D7 : Hid (Below W4.heap.size W4 W7) := D6.out.trans (b7.mono D6.out.size)
     (refine wpAnyH_take (i := 6) (v := ?v6x39) rfl (by kernel_rfl) (by kernel_rfl) (by kernel_rfl) (fun _ _ _ h => h) (Or.inl ⟨by rfl, ?hy6x39⟩) (by assumption) ?rest6x39; case hy6x39 => (intro w hSw; (try dsimp only at hSw); go_split_ands; go_simp; (try with_reducible rfl)))
     try simp only [Act.put, pu1, pu2, pu3, pu4, pu5, pu6]
     (refine wpAnyH_take (i := 7) (v := ?v7x40) rfl (by kernel_rfl) (by kernel_rfl) (by kernel_rfl) (fun _ _ _ h => h) (Or.inl ⟨by rfl, ?hy7x40⟩) (by assumption) ?rest7x40; case hy7x40 => (intro w hSw; (try dsimp only at hSw); go_split_ands; go_simp; (try with_reducible rfl)))
     try simp only [Act.put, pu1, pu2, pu3, pu4, pu5, pu6]
     (refine wpAnyH_take (i := 8) (v := ?v8x41) rfl (by kernel_rfl) (by kernel_rfl) (by kernel_rfl) (fun _ _ _ h => h) (Or.inl ⟨by rfl, ?hy8x41⟩) (by assumption) ?rest8x41; case hy8x41 => (intro w hSw; (try dsimp only at hSw); go_split_ands; go_simp; (try with_reducible rfl)))
     try simp only [Act.put, pu1, pu2, pu3, pu4, pu5, pu6]
     refine wpAnyH_ready (rs := [9]) (by kernel_rfl) (by simp) ?_
     refine AllReadyH.cons rfl (fun K hK => ?_) AllReadyH.nil
     go_simp
     refine hK.out _ _ ⟨(keepR (W := W7) hHeld.1 ((Below.refl _ _).alloc (Nat.le_refl _) _)), (keepR (W := W7) hHeld.2 ((Below.refl _ _).alloc (Nat.le_refl _) _))⟩ (fun hHeld => ?_)
     clear hK K
     try simp only [Act.put, pu1, pu2, pu3, pu4, pu5, pu6]
     obtain ⟨W8, HW8, b8, y8, r_s8⟩ : ∃ X, Hid ((W7.alloc (.cells #[.slice none 0 0, .int .i64 0, .string ⟨#[]⟩, .slice none 0 0, .int .i64 0] 37)) = X) ∧ Below W7.heap.size W7 X ∧ W7.heap.size + 1 ≤ X.heap.size ∧ Hid (X.heap[W7.heap.size]? = some (.cells #[.slice none 0 0, .int .i64 0, .string ⟨#[]⟩, .slice none 0 0, .int .i64 0] 37 (0, 0))) := ⟨_, rfl, ((Below.refl _ _).alloc (Nat.le_refl _) _), (by show _ ≤ (W7.heap.push _).size; simp), heap_alloc_new W7 _⟩
     have HHW8 := HW8.out
     rw [HHW8] at hHeld ⊢
     clear HHW8
     have z8 : W7.heap.size ≤ W8.heap.size := b8.size
     have B8 : Hid (Below w.heap.size w W8) := B7.out.trans (b8.mono B7.out.size)
     have r_x8 : Hid (W8.heap[g_x]? = some (.cells #[.slice ao_x L_x cap_x, .int .i64 M.n, .string M.r] 31 (0, 0))) := rowKeep r_x7.out b8
     have o_l8 : Hid (Own W8 (w.heap.size) (W1.heap.size) 9 (.slice ao_l L_l cap_l) (ss l)) := Own.later o_l7.out b8 (by omega)
     have o_n8 : Hid (Own W8 (lo_n) (hi_n) 9 (.slice ao_n L_n cap_n) (ss [])) := Own.later o_n7.out b8 (by omega)
     have o_np8 : Hid (Own W8 (lo_np) (hi_np) 5 (.slice ao_np L_np cap_np) (bs [])) := Own.later o_np7.out b8 (by omega)
     have o_s8 : Hid (Own W8 (lo_s) (hi_s) 9 (.slice ao_s L_s cap_s) (ss l)) := Own.later o_s7.out b8 (by omega)
     have o_sp8 : Hid (Own W8 (lo_sp) (hi_sp) 5 (.slice ao_sp L_sp cap_sp) (bs P)) := Own.later o_sp7.out b8 (by omega)
     have c_x8_0 : W8.cell? ⟨g_x, 0, none⟩ = some (.slice ao_x L_x cap_x) := row_at r_x8.out 0
     have c_x8_1 : W8.cell? ⟨g_x, 1, none⟩ = some (.int .i64 M.n) := row_at r_x8.out 1
     have c_x8_2 : W8.cell? ⟨g_x, 2, none⟩ = some (.string M.r) := row_at r_x8.out 2
     have c_s8_0 : W8.cell? ⟨W7.heap.size, 0, none⟩ = some (.slice none 0 0) := row_at r_s8.out 0
     have c_s8_1 : W8.cell? ⟨W7.heap.size, 1, none⟩ = some (.int .i64 0) := row_at r_s8.out 1
     have c_s8_2 : W8.cell? ⟨W7.heap.size, 2, none⟩ = some (.string ⟨#[]⟩) := row_at r_s8.out 2
     have c_s8_3 : W8.cell? ⟨W7.heap.size, 3, none⟩ = some (.slice none 0 0) := row_at r_s8.out 3
     have c_s8_4 : W8.cell? ⟨W7.heap.size, 4, none⟩ = some (.int .i64 0) := row_at r_s8.out 4
     clear r_x7 c_x7_0 c_x7_1 c_x7_2 o_l7 o_n7 o_np7 o_s7 o_sp7
     have f_t8 : Hid (Sh W8 (.slice (some ⟨W5.heap.size, 0, none⟩) 1 1) [M]) := Sh.later f_t7.out b8
     clear f_t7
     have D8 : Hid (Below W4.heap.size W4 W8) := D7.out.trans (b8.mono D7.out.size)
     refine wpAnyH_ready (rs := [10]) (by kernel_rfl) (by simp) ?_
     refine AllReadyH.cons rfl (fun K hK => ?_) AllReadyH.nil
     rw [if_pos (by rfl)]
     refine wp_store_row 37 _ _ rfl (W7.heap.size) (sc (.slice ao_s L_s cap_s) M (.slice ao_sp L_sp cap_sp) 0) rfl rfl 37 _ r_s8.out (sizeS _ _ _ _) rfl (oneS _ _ rfl rfl) ?_
     refine hK.out _ _ ⟨(cell_row (by show W2.heap.size ≠ W7.heap.size; omega) hHeld.1), (cell_row (by show W2.heap.size ≠ W7.heap.size; omega) hHeld.2)⟩ (fun hHeld => ?_)
     clear hK K
     try simp only [Act.put, pu1, pu2, pu3, pu4, pu5, pu6]
     have D9a : Below W4.heap.size W4 (W8.setRow (W7.heap.size) (sc (.slice ao_s L_s cap_s) M (.slice ao_sp L_sp cap_sp) 0)) := below_setRow D8.out (by omega) _
     obtain ⟨W9, HW9⟩ : ∃ X, Hid (W8.setRow (W7.heap.size) (sc (.slice ao_s L_s cap_s) M (.slice ao_sp L_sp cap_sp) 0) = X) := ⟨_, rfl⟩
     have z9 : W8.heap.size ≤ W9.heap.size := by rw [← HW9.out]; simp
     have B9 : Hid (Below w.heap.size w W9) := by show Below _ _ _; rw [← HW9.out]; exact below_setRow B8.out (by have := B8.out.size; omega) _
     have r_x9 : Hid (W9.heap[g_x]? = some (.cells #[.slice ao_x L_x cap_x, .int .i64 M.n, .string M.r] 31 (0, 0))) := by show _ = _; rw [← HW9.out]; exact (setRow_other _ _ _ _ (by omega)).trans r_x8.out
     have o_l9 : Hid (Own W9 (w.heap.size) (W1.heap.size) 9 (.slice ao_l L_l cap_l) (ss l)) := by show Own _ _ _ _ _ _; rw [← HW9.out]; exact Own.setRow o_l8.out _ (by omega)
     have o_n9 : Hid (Own W9 (lo_n) (hi_n) 9 (.slice ao_n L_n cap_n) (ss [])) := by show Own _ _ _ _ _ _; rw [← HW9.out]; exact Own.setRow o_n8.out _ (by omega)
     have o_np9 : Hid (Own W9 (lo_np) (hi_np) 5 (.slice ao_np L_np cap_np) (bs [])) := by show Own _ _ _ _ _ _; rw [← HW9.out]; exact Own.setRow o_np8.out _ (by omega)
     have o_s9 : Hid (Own W9 (lo_s) (hi_s) 9 (.slice ao_s L_s cap_s) (ss l)) := by show Own _ _ _ _ _ _; rw [← HW9.out]; exact Own.setRow o_s8.out _ (by omega)
     have o_sp9 : Hid (Own W9 (lo_sp) (hi_sp) 5 (.slice ao_sp L_sp cap_sp) (bs P)) := by show Own _ _ _ _ _ _; rw [← HW9.out]; exact Own.setRow o_sp8.out _ (by omega)
     have r_s9 : Hid (W9.heap[W7.heap.size]? = some (.cells #[.slice ao_s L_s cap_s, .int .i64 M.n, .string M.r, .slice ao_sp L_sp cap_sp, .int .i64 0] 37 (0, 0))) := by show _ = _; rw [← HW9.out]; exact setRow_heap _ _ _ _ _ (0, 0) r_s8.out
     rw [HW9.out]
     clear r_x8 c_x8_0 c_x8_1 c_x8_2 r_s8 c_s8_0 c_s8_1 c_s8_2 c_s8_3 c_s8_4 o_l8 o_n8 o_np8 o_s8 o_sp8
     have c_x9_0 : W9.cell? ⟨g_x, 0, none⟩ = some (.slice ao_x L_x cap_x) := row_at r_x9.out 0
     have c_x9_1 : W9.cell? ⟨g_x, 1, none⟩ = some (.int .i64 M.n) := row_at r_x9.out 1
     have c_x9_2 : W9.cell? ⟨g_x, 2, none⟩ = some (.string M.r) := row_at r_x9.out 2
     have c_s9_0 : W9.cell? ⟨W7.heap.size, 0, none⟩ = some (.slice ao_s L_s cap_s) := row_at r_s9.out 0
     have c_s9_1 : W9.cell? ⟨W7.heap.size, 1, none⟩ = some (.int .i64 M.n) := row_at r_s9.out 1
     have c_s9_2 : W9.cell? ⟨W7.heap.size, 2, none⟩ = some (.string M.r) := row_at r_s9.out 2
     have c_s9_3 : W9.cell? ⟨W7.heap.size, 3, none⟩ = some (.slice ao_sp L_sp cap_sp) := row_at r_s9.out 3
     have c_s9_4 : W9.cell? ⟨W7.heap.size, 4, none⟩ = some (.int .i64 0) := row_at r_s9.out 4
     rw [HW9.out] at hHeld
     have D9 : Hid (Below W4.heap.size W4 W9) := by show Below _ _ _; rw [← HW9.out]; exact D9a
     (refine wpAnyH_take (i := 11) (v := ?v11x42) rfl (by kernel_rfl) (by kernel_rfl) (by kernel_rfl) (fun _ _ _ h => h) (Or.inl ⟨by rfl, ?hy11x42⟩) (by assumption) ?rest11x42; case hy11x42 => (intro w hSw; (try dsimp only at hSw); go_split_ands; go_simp; (try with_reducible rfl)))
     try simp only [Act.put, pu1, pu2, pu3, pu4, pu5, pu6]
     refine wpAnyH_done (by kernel_rfl) ?_ _
     clear hHeld
     go_wp2_with fail
     go_meet
     exact ⟨W7.heap.size, rfl, rfl, by omega, (Array.getElem?_eq_some_iff.1 r_s9.out).1, D9.out, lo_s, hi_s, ao_s, L_s, cap_s, lo_sp, hi_sp, ao_sp, L_sp, cap_sp, by omega, by omega, by omega, by omega, by omega, by omega, by omega, o_s9.out, o_sp9.out, by omega, by omega, r_s9.out⟩
    ·
     go_simp
     refine hK.out _ _ ⟨(keepR (W := W6) hHeld.1 ((Below.refl _ _).alloc (Nat.le_refl _) _)), (keepR (W := W6) hHeld.2 ((Below.refl _ _).alloc (Nat.le_refl _) _))⟩ (fun hHeld => ?_)
     clear hK K
     try simp only [Act.put, pu1, pu2, pu3, pu4, pu5, pu6]
     obtain ⟨W7, HW7, b7, y7, r_s7⟩ : ∃ X, Hid ((W6.alloc (.cells #[.slice none 0 0, .int .i64 0, .string ⟨#[]⟩, .slice none 0 0, .int .i64 0] 37)) = X) ∧ Below W6.heap.size W6 X ∧ W6.heap.size + 1 ≤ X.heap.size ∧ Hid (X.heap[W6.heap.size]? = some (.cells #[.slice none 0 0, .int .i64 0, .string ⟨#[]⟩, .slice none 0 0, .int .i64 0] 37 (0, 0))) := ⟨_, rfl, ((Below.refl _ _).alloc (Nat.le_refl _) _), (by show _ ≤ (W6.heap.push _).size; simp), heap_alloc_new W6 _⟩
     have HHW7 := HW7.out
     rw [HHW7] at hHeld ⊢
     clear HHW7
     have z7 : W6.heap.size ≤ W7.heap.size := b7.size
     have B7 : Hid (Below w.heap.size w W7) := B6.out.trans (b7.mono B6.out.size)
     have r_x7 : Hid (W7.heap[g_x]? = some (.cells #[.slice ao_x L_x cap_x, .int .i64 M.n, .string M.r] 31 (0, 0))) := rowKeep r_x6.out b7
     have o_l7 : Hid (Own W7 (w.heap.size) (W1.heap.size) 9 (.slice ao_l L_l cap_l) (ss l)) := Own.later o_l6.out b7 (by omega)
     have o_n7 : Hid (Own W7 (lo_n) (hi_n) 9 (.slice ao_n L_n cap_n) (ss [])) := Own.later o_n6.out b7 (by omega)
     have o_np7 : Hid (Own W7 (lo_np) (hi_np) 5 (.slice ao_np L_np cap_np) (bs [])) := Own.later o_np6.out b7 (by omega)
     have c_x7_0 : W7.cell? ⟨g_x, 0, none⟩ = some (.slice ao_x L_x cap_x) := row_at r_x7.out 0
     have c_x7_1 : W7.cell? ⟨g_x, 1, none⟩ = some (.int .i64 M.n) := row_at r_x7.out 1
     have c_x7_2 : W7.cell? ⟨g_x, 2, none⟩ = some (.string M.r) := row_at r_x7.out 2
     have c_s7_0 : W7.cell? ⟨W6.heap.size, 0, none⟩ = some (.slice none 0 0) := row_at r_s7.out 0
     have c_s7_1 : W7.cell? ⟨W6.heap.size, 1, none⟩ = some (.int .i64 0) := row_at r_s7.out 1
     have c_s7_2 : W7.cell? ⟨W6.heap.size, 2, none⟩ = some (.string ⟨#[]⟩) := row_at r_s7.out 2
     have c_s7_3 : W7.cell? ⟨W6.heap.size, 3, none⟩ = some (.slice none 0 0) := row_at r_s7.out 3
     have c_s7_4 : W7.cell? ⟨W6.heap.size, 4, none⟩ = some (.int .i64 0) := row_at r_s7.out 4
     clear r_x6 c_x6_0 c_x6_1 c_x6_2 o_l6 o_n6 o_np6
     have f_t7 : Hid (Sh W7 (.slice (some ⟨W5.heap.size, 0, none⟩) 1 1) [M]) := Sh.later f_t6.out b7
     clear f_t6
     have D7 : Hid (Below W4.heap.size W4 W7) := D6.out.trans (b7.mono D6.out.size)
     refine wpAnyH_ready (rs := [5]) (by kernel_rfl) (by simp) ?_
     refine AllReadyH.cons rfl (fun K hK => ?_) AllReadyH.nil
     go_simp
     refine (q5 W7 _ _ _ _ B7.out o_n7.out.sl o_np7.out.sl f_t7.out o_l7.out.sl).mono ?_
     rintro e W8 ⟨v_s, v_sp, rfl, o_s8, o_sp8, b8⟩
     refine hK.out _ _ ⟨(keepR (W := W7) hHeld.1 b8), (keepR (W := W7) hHeld.2 b8)⟩ (fun hHeld => ?_)
     clear hK K
     try simp only [Act.put, pu1, pu2, pu3, pu4, pu5, pu6]
     obtain ⟨lo_s, hi_s, lo_sp, hi_sp, d1_s, d2_s, d3_s, d4_s, d5_s, d6_s, d7_s, oo_s, oo_sp⟩ := Sr.pairN o_s8 o_sp8 b8.size
     clear o_s8 o_sp8
     obtain ⟨ao_s, L_s, cap_s, rfl, _, _⟩ := oo_s.form
     obtain ⟨ao_sp, L_sp, cap_sp, rfl, _, _⟩ := oo_sp.form
     have o_s8 : Hid (Own W8 lo_s hi_s 9 (.slice ao_s L_s cap_s) (ss l)) := oo_s
     have o_sp8 : Hid (Own W8 lo_sp hi_sp 5 (.slice ao_sp L_sp cap_sp) (bs P)) := oo_sp
     clear oo_s oo_sp
     have z8 : W7.heap.size ≤ W8.heap.size := b8.size
     have B8 : Hid (Below w.heap.size w W8) := B7.out.trans (b8.mono B7.out.size)
     have r_x8 : Hid (W8.heap[g_x]? = some (.cells #[.slice ao_x L_x cap_x, .int .i64 M.n, .string M.r] 31 (0, 0))) := rowKeep r_x7.out b8
     have r_s8 : Hid (W8.heap[W6.heap.size]? = some (.cells #[.slice none 0 0, .int .i64 0, .string ⟨#[]⟩, .slice none 0 0, .int .i64 0] 37 (0, 0))) := rowKeep r_s7.out b8
     have o_l8 : Hid (Own W8 (w.heap.size) (W1.heap.size) 9 (.slice ao_l L_l cap_l) (ss l)) := Own.later o_l7.out b8 (by omega)
     have o_n8 : Hid (Own W8 (lo_n) (hi_n) 9 (.slice ao_n L_n cap_n) (ss [])) := Own.later o_n7.out b8 (by omega)
     have o_np8 : Hid (Own W8 (lo_np) (hi_np) 5 (.slice ao_np L_np cap_np) (bs [])) := Own.later o_np7.out b8 (by omega)
     have c_x8_0 : W8.cell? ⟨g_x, 0, none⟩ = some (.slice ao_x L_x cap_x) := row_at r_x8.out 0
     have c_x8_1 : W8.cell? ⟨g_x, 1, none⟩ = some (.int .i64 M.n) := row_at r_x8.out 1
     have c_x8_2 : W8.cell? ⟨g_x, 2, none⟩ = some (.string M.r) := row_at r_x8.out 2
     have c_s8_0 : W8.cell? ⟨W6.heap.size, 0, none⟩ = some (.slice none 0 0) := row_at r_s8.out 0
     have c_s8_1 : W8.cell? ⟨W6.heap.size, 1, none⟩ = some (.int .i64 0) := row_at r_s8.out 1
     have c_s8_2 : W8.cell? ⟨W6.heap.size, 2, none⟩ = some (.string ⟨#[]⟩) := row_at r_s8.out 2
     have c_s8_3 : W8.cell? ⟨W6.heap.size, 3, none⟩ = some (.slice none 0 0) := row_at r_s8.out 3
     have c_s8_4 : W8.cell? ⟨W6.heap.size, 4, none⟩ = some (.int .i64 0) := row_at r_s8.out 4
     clear r_x7 c_x7_0 c_x7_1 c_x7_2 r_s7 c_s7_0 c_s7_1 c_s7_2 c_s7_3 c_s7_4 o_l7 o_n7 o_np7
     have f_t8 : Hid (Sh W8 (.slice (some ⟨W5.heap.size, 0, none⟩) 1 1) [M]) := Sh.later f_t7.out b8
     clear f_t7
     have D8 : Hid (Below W4.heap.size W4 W8) := D7.out.trans (b8.mono D7.out.size)
     (refine wpAnyH_take (i := 6) (v := ?v6x43) rfl (by kernel_rfl) (by kernel_rfl) (by kernel_rfl) (fun _ _ _ h => h) (Or.inl ⟨by rfl, ?hy6x43⟩) (by assumption) ?rest6x43; case hy6x43 => (intro w hSw; (try dsimp only at hSw); go_split_ands; go_simp; (try with_reducible rfl)))
     try simp only [Act.put, pu1, pu2, pu3, pu4, pu5, pu6]
     (refine wpAnyH_take (i := 7) (v := ?v7x44) rfl (by kernel_rfl) (by kernel_rfl) (by kernel_rfl) (fun _ _ _ h => h) (Or.inl ⟨by rfl, ?hy7x44⟩) (by assumption) ?rest7x44; case hy7x44 => (intro w hSw; (try dsimp only at hSw); go_split_ands; go_simp; (try with_reducible rfl)))
     try simp only [Act.put, pu1, pu2, pu3, pu4, pu5, pu6]
     (refine wpAnyH_take (i := 8) (v := ?v8x45) rfl (by kernel_rfl) (by kernel_rfl) (by kernel_rfl) (fun _ _ _ h => h) (Or.inl ⟨by rfl, ?hy8x45⟩) (by assumption) ?rest8x45; case hy8x45 => (intro w hSw; (try dsimp only at hSw); go_split_ands; go_simp; (try with_reducible rfl)))
     try simp only [Act.put, pu1, pu2, pu3, pu4, pu5, pu6]
     refine wpAnyH_ready (rs := [10]) (by kernel_rfl) (by simp) ?_
     refine AllReadyH.cons rfl (fun K hK => ?_) AllReadyH.nil
     rw [if_pos (by rfl)]
     refine wp_store_row 37 _ _ rfl (W6.heap.size) (sc (.slice ao_s L_s cap_s) M (.slice ao_sp L_sp cap_sp) 0) rfl rfl 37 _ r_s8.out (sizeS _ _ _ _) rfl (oneS _ _ rfl rfl) ?_
     refine hK.out _ _ ⟨(cell_row (by show W2.heap.size ≠ W6.heap.size; omega) hHeld.1), (cell_row (by show W2.heap.size ≠ W6.heap.size; omega) hHeld.2)⟩ (fun hHeld => ?_)
     clear hK K
     try simp only [Act.put, pu1, pu2, pu3, pu4, pu5, pu6]
     have D9a : Below W4.heap.size W4 (W8.setRow (W6.heap.size) (sc (.slice ao_s L_s cap_s) M (.slice ao_sp L_sp cap_sp) 0)) := below_setRow D8.out (by omega) _
     obtain ⟨W9, HW9⟩ : ∃ X, Hid (W8.setRow (W6.heap.size) (sc (.slice ao_s L_s cap_s) M (.slice ao_sp L_sp cap_sp) 0) = X) := ⟨_, rfl⟩
     have z9 : W8.heap.size ≤ W9.heap.size := by rw [← HW9.out]; simp
     have B9 : Hid (Below w.heap.size w W9) := by show Below _ _ _; rw [← HW9.out]; exact below_setRow B8.out (by have := B8.out.size; omega) _
     have r_x9 : Hid (W9.heap[g_x]? = some (.cells #[.slice ao_x L_x cap_x, .int .i64 M.n, .string M.r] 31 (0, 0))) := by show _ = _; rw [← HW9.out]; exact (setRow_other _ _ _ _ (by omega)).trans r_x8.out
     have o_l9 : Hid (Own W9 (w.heap.size) (W1.heap.size) 9 (.slice ao_l L_l cap_l) (ss l)) := by show Own _ _ _ _ _ _; rw [← HW9.out]; exact Own.setRow o_l8.out _ (by omega)
     have o_n9 : Hid (Own W9 (lo_n) (hi_n) 9 (.slice ao_n L_n cap_n) (ss [])) := by show Own _ _ _ _ _ _; rw [← HW9.out]; exact Own.setRow o_n8.out _ (by omega)
     have o_np9 : Hid (Own W9 (lo_np) (hi_np) 5 (.slice ao_np L_np cap_np) (bs [])) := by show Own _ _ _ _ _ _; rw [← HW9.out]; exact Own.setRow o_np8.out _ (by omega)
     have o_s9 : Hid (Own W9 (lo_s) (hi_s) 9 (.slice ao_s L_s cap_s) (ss l)) := by show Own _ _ _ _ _ _; rw [← HW9.out]; exact Own.setRow o_s8.out _ (by omega)
     have o_sp9 : Hid (Own W9 (lo_sp) (hi_sp) 5 (.slice ao_sp L_sp cap_sp) (bs P)) := by show Own _ _ _ _ _ _; rw [← HW9.out]; exact Own.setRow o_sp8.out _ (by omega)
     have r_s9 : Hid (W9.heap[W6.heap.size]? = some (.cells #[.slice ao_s L_s cap_s, .int .i64 M.n, .string M.r, .slice ao_sp L_sp cap_sp, .int .i64 0] 37 (0, 0))) := by show _ = _; rw [← HW9.out]; exact setRow_heap _ _ _ _ _ (0, 0) r_s8.out
     rw [HW9.out]
     clear r_x8 c_x8_0 c_x8_1 c_x8_2 r_s8 c_s8_0 c_s8_1 c_s8_2 c_s8_3 c_s8_4 o_l8 o_n8 o_np8 o_s8 o_sp8
     have c_x9_0 : W9.cell? ⟨g_x, 0, none⟩ = some (.slice ao_x L_x cap_x) := row_at r_x9.out 0
     have c_x9_1 : W9.cell? ⟨g_x, 1, none⟩ = some (.int .i64 M.n) := row_at r_x9.out 1
     have c_x9_2 : W9.cell? ⟨g_x, 2, none⟩ = some (.string M.r) := row_at r_x9.out 2
     have c_s9_0 : W9.cell? ⟨W6.heap.size, 0, none⟩ = some (.slice ao_s L_s cap_s) := row_at r_s9.out 0
     have c_s9_1 : W9.cell? ⟨W6.heap.size, 1, none⟩ = some (.int .i64 M.n) := row_at r_s9.out 1
     have c_s9_2 : W9.cell? ⟨W6.heap.size, 2, none⟩ = some (.string M.r) := row_at r_s9.out 2
     have c_s9_3 : W9.cell? ⟨W6.heap.size, 3, none⟩ = some (.slice ao_sp L_sp cap_sp) := row_at r_s9.out 3
     have c_s9_4 : W9.cell? ⟨W6.heap.size, 4, none⟩ = some (.int .i64 0) := row_at r_s9.out 4
     rw [HW9.out] at hHeld
     have D9 : Hid (Below W4.heap.size W4 W9) := by show Below _ _ _; rw [← HW9.out]; exact D9a
     (refine wpAnyH_take (i := 11) (v := ?v11x46) rfl (by kernel_rfl) (by kernel_rfl) (by kernel_rfl) (fun _ _ _ h => h) (Or.inl ⟨by rfl, ?hy11x46⟩) (by assumption) ?rest11x46; case hy11x46 => (intro w hSw; (try dsimp only at hSw); go_split_ands; go_simp; (try with_reducible rfl)))
     try simp only [Act.put, pu1, pu2, pu3, pu4, pu5, pu6]
     refine wpAnyH_done (by kernel_rfl) ?_ _
     clear hHeld
     go_wp2_with fail
     go_meet
     exact ⟨W6.heap.size, rfl, rfl, by omega, (Array.getElem?_eq_some_iff.1 r_s9.out).1, D9.out, lo_s, hi_s, ao_s, L_s, cap_s, lo_sp, hi_sp, ao_sp, L_sp, cap_sp, by omega, by omega, by omega, by omega, by omega, by omega, by omega, o_s9.out, o_sp9.out, by omega, by omega, r_s9.out⟩
   ·
    go_simp
    refine hK.out _ _ ⟨(keepR (W := W5) hHeld.1 ((Below.refl _ _).alloc (Nat.le_refl _) _)), (keepR (W := W5) hHeld.2 ((Below.refl _ _).alloc (Nat.le_refl _) _))⟩ (fun hHeld => ?_)
    clear hK K
    try simp only [Act.put, pu1, pu2, pu3, pu4, pu5, pu6]
    obtain ⟨W6, HW6, b6, y6, r_s6⟩ : ∃ X, Hid ((W5.alloc (.cells #[.slice none 0 0, .int .i64 0, .string ⟨#[]⟩, .slice none 0 0, .int .i64 0] 37)) = X) ∧ Below W5.heap.size W5 X ∧ W5.heap.size + 1 ≤ X.heap.size ∧ Hid (X.heap[W5.heap.size]? = some (.cells #[.slice none 0 0, .int .i64 0, .string ⟨#[]⟩, .slice none 0 0, .int .i64 0] 37 (0, 0))) := ⟨_, rfl, ((Below.refl _ _).alloc (Nat.le_refl _) _), (by show _ ≤ (W5.heap.push _).size; simp), heap_alloc_new W5 _⟩
    have HHW6 := HW6.out
    rw [HHW6] at hHeld ⊢
    clear HHW6
    have z6 : W5.heap.size ≤ W6.heap.size := b6.size
    have B6 : Hid (Below w.heap.size w W6) := B5.out.trans (b6.mono B5.out.size)
    have r_x6 : Hid (W6.heap[g_x]? = some (.cells #[.slice ao_x L_x cap_x, .int .i64 M.n, .string M.r] 31 (0, 0))) := rowKeep r_x5.out b6
    have o_l6 : Hid (Own W6 (w.heap.size) (W1.heap.size) 9 (.slice ao_l L_l cap_l) (ss l)) := Own.later o_l5.out b6 (by omega)
    have o_n6 : Hid (Own W6 (lo_n) (hi_n) 9 (.slice ao_n L_n cap_n) (ss [])) := Own.later o_n5.out b6 (by omega)
    have o_np6 : Hid (Own W6 (lo_np) (hi_np) 5 (.slice ao_np L_np cap_np) (bs [])) := Own.later o_np5.out b6 (by omega)
    have c_x6_0 : W6.cell? ⟨g_x, 0, none⟩ = some (.slice ao_x L_x cap_x) := row_at r_x6.out 0
    have c_x6_1 : W6.cell? ⟨g_x, 1, none⟩ = some (.int .i64 M.n) := row_at r_x6.out 1
    have c_x6_2 : W6.cell? ⟨g_x, 2, none⟩ = some (.string M.r) := row_at r_x6.out 2
    have c_s6_0 : W6.cell? ⟨W5.heap.size, 0, none⟩ = some (.slice none 0 0) := row_at r_s6.out 0
    have c_s6_1 : W6.cell? ⟨W5.heap.size, 1, none⟩ = some (.int .i64 0) := row_at r_s6.out 1
    have c_s6_2 : W6.cell? ⟨W5.heap.size, 2, none⟩ = some (.string ⟨#[]⟩) := row_at r_s6.out 2
    have c_s6_3 : W6.cell? ⟨W5.heap.size, 3, none⟩ = some (.slice none 0 0) := row_at r_s6.out 3
    have c_s6_4 : W6.cell? ⟨W5.heap.size, 4, none⟩ = some (.int .i64 0) := row_at r_s6.out 4
    clear r_x5 c_x5_0 c_x5_1 c_x5_2 o_l5 o_n5 o_np5
    have D6 : Hid (Below W4.heap.size W4 W6) := D5.out.trans (b6.mono D5.out.size)
    refine wpAnyH_ready (rs := [2]) (by kernel_rfl) (by simp) ?_
    refine AllReadyH.cons rfl (fun K hK => ?_) AllReadyH.nil
    go_simp
    refine hK.out _ _ ⟨(keepR (W := W6) hHeld.1 ((Below.refl _ _).alloc (Nat.le_refl _) _)), (keepR (W := W6) hHeld.2 ((Below.refl _ _).alloc (Nat.le_refl _) _))⟩ (fun hHeld => ?_)
    clear hK K
    try simp only [Act.put, pu1, pu2, pu3, pu4, pu5, pu6]
    obtain ⟨W7, HW7, b7, ff7⟩ : ∃ X, Hid ((W6.alloc (.cells #[.int .i64 M.n, .string M.r] 28)) = X) ∧ Below W6.heap.size W6 X ∧ Hid (Sh X (.slice (some ⟨W6.heap.size, 0, none⟩) 1 1) [M]) := ⟨_, rfl, ((Below.refl _ _).alloc (Nat.le_refl _) _), Sh.one W6 M⟩
    have HHW7 := HW7.out
    rw [HHW7] at hHeld ⊢
    clear HHW7
    have z7 : W6.heap.size ≤ W7.heap.size := b7.size
    have B7 : Hid (Below w.heap.size w W7) := B6.out.trans (b7.mono B6.out.size)
    have r_x7 : Hid (W7.heap[g_x]? = some (.cells #[.slice ao_x L_x cap_x, .int .i64 M.n, .string M.r] 31 (0, 0))) := rowKeep r_x6.out b7
    have r_s7 : Hid (W7.heap[W5.heap.size]? = some (.cells #[.slice none 0 0, .int .i64 0, .string ⟨#[]⟩, .slice none 0 0, .int .i64 0] 37 (0, 0))) := rowKeep r_s6.out b7
    have o_l7 : Hid (Own W7 (w.heap.size) (W1.heap.size) 9 (.slice ao_l L_l cap_l) (ss l)) := Own.later o_l6.out b7 (by omega)
    have o_n7 : Hid (Own W7 (lo_n) (hi_n) 9 (.slice ao_n L_n cap_n) (ss [])) := Own.later o_n6.out b7 (by omega)
    have o_np7 : Hid (Own W7 (lo_np) (hi_np) 5 (.slice ao_np L_np cap_np) (bs [])) := Own.later o_np6.out b7 (by omega)
    have c_x7_0 : W7.cell? ⟨g_x, 0, none⟩ = some (.slice ao_x L_x cap_x) := row_at r_x7.out 0
    have c_x7_1 : W7.cell? ⟨g_x, 1, none⟩ = some (.int .i64 M.n) := row_at r_x7.out 1
    have c_x7_2 : W7.cell? ⟨g_x, 2, none⟩ = some (.string M.r) := row_at r_x7.out 2
    have c_s7_0 : W7.cell? ⟨W5.heap.size, 0, none⟩ = some (.slice none 0 0) := row_at r_s7.out 0
    have c_s7_1 : W7.cell? ⟨W5.heap.size, 1, none⟩ = some (.int .i64 0) := row_at r_s7.out 1
    have c_s7_2 : W7.cell? ⟨W5.heap.size, 2, none⟩ = some (.string ⟨#[]⟩) := row_at r_s7.out 2
    have c_s7_3 : W7.cell? ⟨W5.heap.size, 3, none⟩ = some (.slice none 0 0) := row_at r_s7.out 3
    have c_s7_4 : W7.cell? ⟨W5.heap.size, 4, none⟩ = some (.int .i64 0) := row_at r_s7.out 4
    clear r_x6 c_x6_0 c_x6_1 c_x6_2 r_s6 c_s6_0 c_s6_1 c_s6_2 c_s6_3 c_s6_4 o_l6 o_n6 o_np6
    have D7 : Hid (Below W4.heap.size W4 W7) := D6.out.trans (b7.mono D6.out.size)
    have f_t7 : Hid (Sh W7 (.slice (some ⟨W6.heap.size, 0, none⟩) 1 1) [M]) := ff7.out
    clear ff7
    refine wpAnyH_ready (rs := [5]) (by kernel_rfl) (by simp) ?_
    refine AllReadyH.cons rfl (fun K hK => ?_) AllReadyH.nil
    go_simp
    refine (q5 W7 _ _ _ _ B7.out o_n7.out.sl o_np7.out.sl f_t7.out o_l7.out.sl).mono ?_
    rintro e W8 ⟨v_s, v_sp, rfl, o_s8, o_sp8, b8⟩
    refine hK.out _ _ ⟨(keepR (W := W7) hHeld.1 b8), (keepR (W := W7) hHeld.2 b8)⟩ (fun hHeld => ?_)
    clear hK K
    try simp only [Act.put, pu1, pu2, pu3, pu4, pu5, pu6]
    obtain ⟨lo_s, hi_s, lo_sp, hi_sp, d1_s, d2_s, d3_s, d4_s, d5_s, d6_s, d7_s, oo_s, oo_sp⟩ := Sr.pairN o_s8 o_sp8 b8.size
    clear o_s8 o_sp8
    obtain ⟨ao_s, L_s, cap_s, rfl, _, _⟩ := oo_s.form
    obtain ⟨ao_sp, L_sp, cap_sp, rfl, _, _⟩ := oo_sp.form
    have o_s8 : Hid (Own W8 lo_s hi_s 9 (.slice ao_s L_s cap_s) (ss l)) := oo_s
    have o_sp8 : Hid (Own W8 lo_sp hi_sp 5 (.slice ao_sp L_sp cap_sp) (bs P)) := oo_sp
    clear oo_s oo_sp
    have z8 : W7.heap.size ≤ W8.heap.size := b8.size
    have B8 : Hid (Below w.heap.size w W8) := B7.out.trans (b8.mono B7.out.size)
    have r_x8 : Hid (W8.heap[g_x]? = some (.cells #[.slice ao_x L_x cap_x, .int .i64 M.n, .string M.r] 31 (0, 0))) := rowKeep r_x7.out b8
    have r_s8 : Hid (W8.heap[W5.heap.size]? = some (.cells #[.slice none 0 0, .int .i64 0, .string ⟨#[]⟩, .slice none 0 0, .int .i64 0] 37 (0, 0))) := rowKeep r_s7.out b8
    have o_l8 : Hid (Own W8 (w.heap.size) (W1.heap.size) 9 (.slice ao_l L_l cap_l) (ss l)) := Own.later o_l7.out b8 (by omega)
    have o_n8 : Hid (Own W8 (lo_n) (hi_n) 9 (.slice ao_n L_n cap_n) (ss [])) := Own.later o_n7.out b8 (by omega)
    have o_np8 : Hid (Own W8 (lo_np) (hi_np) 5 (.slice ao_np L_np cap_np) (bs [])) := Own.later o_np7.out b8 (by omega)
    have c_x8_0 : W8.cell? ⟨g_x, 0, none⟩ = some (.slice ao_x L_x cap_x) := row_at r_x8.out 0
    have c_x8_1 : W8.cell? ⟨g_x, 1, none⟩ = some (.int .i64 M.n) := row_at r_x8.out 1
    have c_x8_2 : W8.cell? ⟨g_x, 2, none⟩ = some (.string M.r) := row_at r_x8.out 2
    have c_s8_0 : W8.cell? ⟨W5.heap.size, 0, none⟩ = some (.slice none 0 0) := row_at r_s8.out 0
    have c_s8_1 : W8.cell? ⟨W5.heap.size, 1, none⟩ = some (.int .i64 0) := row_at r_s8.out 1
    have c_s8_2 : W8.cell? ⟨W5.heap.size, 2, none⟩ = some (.string ⟨#[]⟩) := row_at r_s8.out 2
    have c_s8_3 : W8.cell? ⟨W5.heap.size, 3, none⟩ = some (.slice none 0 0) := row_at r_s8.out 3
    have c_s8_4 : W8.cell? ⟨W5.heap.size, 4, none⟩ = some (.int .i64 0) := row_at r_s8.out 4
    clear r_x7 c_x7_0 c_x7_1 c_x7_2 r_s7 c_s7_0 c_s7_1 c_s7_2 c_s7_3 c_s7_4 o_l7 o_n7 o_np7
    have f_t8 : Hid (Sh W8 (.slice (some ⟨W6.heap.size, 0, none⟩) 1 1) [M]) := Sh.later f_t7.out b8
    clear f_t7
    have D8 : Hid (Below W4.heap.size W4 W8) := D7.out.trans (b8.mono D7.out.size)
    (refine wpAnyH_take (i := 6) (v := ?v6x47) rfl (by kernel_rfl) (by kernel_rfl) (by kernel_rfl) (fun _ _ _ h => h) (Or.inl ⟨by rfl, ?hy6x47⟩) (by assumption) ?rest6x47; case hy6x47 => (intro w hSw; (try dsimp only at hSw); go_split_ands; go_simp; (try with_reducible rfl)))
    try simp only [Act.put, pu1, pu2, pu3, pu4, pu5, pu6]
    (refine wpAnyH_take (i := 7) (v := ?v7x48) rfl (by kernel_rfl) (by kernel_rfl) (by kernel_rfl) (fun _ _ _ h => h) (Or.inl ⟨by rfl, ?hy7x48⟩) (by assumption) ?rest7x48; case hy7x48 => (intro w hSw; (try dsimp only at hSw); go_split_ands; go_simp; (try with_reducible rfl)))
    try simp only [Act.put, pu1, pu2, pu3, pu4, pu5, pu6]
    (refine wpAnyH_take (i := 8) (v := ?v8x49) rfl (by kernel_rfl) (by kernel_rfl) (by kernel_rfl) (fun _ _ _ h => h) (Or.inl ⟨by rfl, ?hy8x49⟩) (by assumption) ?rest8x49; case hy8x49 => (intro w hSw; (try dsimp only at hSw); go_split_ands; go_simp; (try with_reducible rfl)))
    try simp only [Act.put, pu1, pu2, pu3, pu4, pu5, pu6]
    refine wpAnyH_ready (rs := [10]) (by kernel_rfl) (by simp) ?_
    refine AllReadyH.cons rfl (fun K hK => ?_) AllReadyH.nil
    rw [if_pos (by rfl)]
    refine wp_store_row 37 _ _ rfl (W5.heap.size) (sc (.slice ao_s L_s cap_s) M (.slice ao_sp L_sp cap_sp) 0) rfl rfl 37 _ r_s8.out (sizeS _ _ _ _) rfl (oneS _ _ rfl rfl) ?_
    refine hK.out _ _ ⟨(cell_row (by show W2.heap.size ≠ W5.heap.size; omega) hHeld.1), (cell_row (by show W2.heap.size ≠ W5.heap.size; omega) hHeld.2)⟩ (fun hHeld => ?_)
    clear hK K
    try simp only [Act.put, pu1, pu2, pu3, pu4, pu5, pu6]
    have D9a : Below W4.heap.size W4 (W8.setRow (W5.heap.size) (sc (.slice ao_s L_s cap_s) M (.slice ao_sp L_sp cap_sp) 0)) := below_setRow D8.out (by omega) _
    obtain ⟨W9, HW9⟩ : ∃ X, Hid (W8.setRow (W5.heap.size) (sc (.slice ao_s L_s cap_s) M (.slice ao_sp L_sp cap_sp) 0) = X) := ⟨_, rfl⟩
    have z9 : W8.heap.size ≤ W9.heap.size := by rw [← HW9.out]; simp
    have B9 : Hid (Below w.heap.size w W9) := by show Below _ _ _; rw [← HW9.out]; exact below_setRow B8.out (by have := B8.out.size; omega) _
    have r_x9 : Hid (W9.heap[g_x]? = some (.cells #[.slice ao_x L_x cap_x, .int .i64 M.n, .string M.r] 31 (0, 0))) := by show _ = _; rw [← HW9.out]; exact (setRow_other _ _ _ _ (by omega)).trans r_x8.out
    have o_l9 : Hid (Own W9 (w.heap.size) (W1.heap.size) 9 (.slice ao_l L_l cap_l) (ss l)) := by show Own _ _ _ _ _ _; rw [← HW9.out]; exact Own.setRow o_l8.out _ (by omega)
    have o_n9 : Hid (Own W9 (lo_n) (hi_n) 9 (.slice ao_n L_n cap_n) (ss [])) := by show Own _ _ _ _ _ _; rw [← HW9.out]; exact Own.setRow o_n8.out _ (by omega)
    have o_np9 : Hid (Own W9 (lo_np) (hi_np) 5 (.slice ao_np L_np cap_np) (bs [])) := by show Own _ _ _ _ _ _; rw [← HW9.out]; exact Own.setRow o_np8.out _ (by omega)
    have o_s9 : Hid (Own W9 (lo_s) (hi_s) 9 (.slice ao_s L_s cap_s) (ss l)) := by show Own _ _ _ _ _ _; rw [← HW9.out]; exact Own.setRow o_s8.out _ (by omega)
    have o_sp9 : Hid (Own W9 (lo_sp) (hi_sp) 5 (.slice ao_sp L_sp cap_sp) (bs P)) := by show Own _ _ _ _ _ _; rw [← HW9.out]; exact Own.setRow o_sp8.out _ (by omega)
    have r_s9 : Hid (W9.heap[W5.heap.size]? = some (.cells #[.slice ao_s L_s cap_s, .int .i64 M.n, .string M.r, .slice ao_sp L_sp cap_sp, .int .i64 0] 37 (0, 0))) := by show _ = _; rw [← HW9.out]; exact setRow_heap _ _ _ _ _ (0, 0) r_s8.out
    rw [HW9.out]
    clear r_x8 c_x8_0 c_x8_1 c_x8_2 r_s8 c_s8_0 c_s8_1 c_s8_2 c_s8_3 c_s8_4 o_l8 o_n8 o_np8 o_s8 o_sp8
    have c_x9_0 : W9.cell? ⟨g_x, 0, none⟩ = some (.slice ao_x L_x cap_x) := row_at r_x9.out 0
    have c_x9_1 : W9.cell? ⟨g_x, 1, none⟩ = some (.int .i64 M.n) := row_at r_x9.out 1
    have c_x9_2 : W9.cell? ⟨g_x, 2, none⟩ = some (.string M.r) := row_at r_x9.out 2
    have c_s9_0 : W9.cell? ⟨W5.heap.size, 0, none⟩ = some (.slice ao_s L_s cap_s) := row_at r_s9.out 0
    have c_s9_1 : W9.cell? ⟨W5.heap.size, 1, none⟩ = some (.int .i64 M.n) := row_at r_s9.out 1
    have c_s9_2 : W9.cell? ⟨W5.heap.size, 2, none⟩ = some (.string M.r) := row_at r_s9.out 2
    have c_s9_3 : W9.cell? ⟨W5.heap.size, 3, none⟩ = some (.slice ao_sp L_sp cap_sp) := row_at r_s9.out 3
    have c_s9_4 : W9.cell? ⟨W5.heap.size, 4, none⟩ = some (.int .i64 0) := row_at r_s9.out 4
    rw [HW9.out] at hHeld
    have D9 : Hid (Below W4.heap.size W4 W9) := by show Below _ _ _; rw [← HW9.out]; exact D9a
    (refine wpAnyH_take (i := 11) (v := ?v11x50) rfl (by kernel_rfl) (by kernel_rfl) (by kernel_rfl) (fun _ _ _ h => h) (Or.inl ⟨by rfl, ?hy11x50⟩) (by assumption) ?rest11x50; case hy11x50 => (intro w hSw; (try dsimp only at hSw); go_split_ands; go_simp; (try with_reducible rfl)))
    try simp only [Act.put, pu1, pu2, pu3, pu4, pu5, pu6]
    refine wpAnyH_done (by kernel_rfl) ?_ _
    clear hHeld
    go_wp2_with fail
    go_meet
    exact ⟨W5.heap.size, rfl, rfl, by omega, (Array.getElem?_eq_some_iff.1 r_s9.out).1, D9.out, lo_s, hi_s, ao_s, L_s, cap_s, lo_sp, hi_sp, ao_sp, L_sp, cap_sp, by omega, by omega, by omega, by omega, by omega, by omega, by omega, o_s9.out, o_sp9.out, by omega, by omega, r_s9.out⟩
  ·
   go_simp
   refine hK.out _ _ ⟨(keepR (W := W4.drew) hHeld.1 ((Below.refl _ _).alloc (Nat.le_refl _) _)), (keepR (W := W4.drew) hHeld.2 ((Below.refl _ _).alloc (Nat.le_refl _) _))⟩ (fun hHeld => ?_)
   clear hK K
   try simp only [Act.put, pu1, pu2, pu3, pu4, pu5, pu6]
   obtain ⟨W5, HW5, b5, ff5⟩ : ∃ X, Hid ((W4.alloc (.cells #[.int .i64 M.n, .string M.r] 28)).drew = X) ∧ Below W4.heap.size W4 X ∧ Hid (Sh X (.slice (some ⟨W4.heap.size, 0, none⟩) 1 1) [M]) := ⟨_, rfl, (Below.drew ((Below.refl _ _).alloc (Nat.le_refl _) _)), Sh.one W4 M⟩
   have HHW5 := HW5.out
   rw [HHW5] at hHeld ⊢
   clear HHW5
   have z5 : W4.heap.size ≤ W5.heap.size := b5.size
   have B5 : Hid (Below w.heap.size w W5) := B4.out.trans (b5.mono B4.out.size)
   have r_x5 : Hid (W5.heap[g_x]? = some (.cells #[.slice ao_x L_x cap_x, .int .i64 M.n, .string M.r] 31 (0, 0))) := rowKeep r_x4.out b5
   have o_l5 : Hid (Own W5 (w.heap.size) (W1.heap.size) 9 (.slice ao_l L_l cap_l) (ss l)) := Own.later o_l4.out b5 (by omega)
   have c_x5_0 : W5.cell? ⟨g_x, 0, none⟩ = some (.slice ao_x L_x cap_x) := row_at r_x5.out 0
   have c_x5_1 : W5.cell? ⟨g_x, 1, none⟩ = some (.int .i64 M.n) := row_at r_x5.out 1
   have c_x5_2 : W5.cell? ⟨g_x, 2, none⟩ = some (.string M.r) := row_at r_x5.out 2
   clear r_x4 c_x4_0 c_x4_1 c_x4_2 o_l4
   have D5 : Hid (Below W4.heap.size W4 W5) := D4.out.trans (b5.mono D4.out.size)
   have f_t5 : Hid (Sh W5 (.slice (some ⟨W4.heap.size, 0, none⟩) 1 1) [M]) := ff5.out
   clear ff5
   refine wpAnyH_ready (rs := [0, 9]) (by kernel_rfl) (by simp) ?_
   refine AllReadyH.cons rfl (fun K hK => ?_) (AllReadyH.cons rfl (fun K hK => ?_) AllReadyH.nil)
   ·
    go_simp
    refine (iSNew W5 B5.out).mono ?_
    rintro e W6 ⟨v_n, v_np, rfl, o_n6, o_np6, b6⟩
    refine hK.out _ _ ⟨(keepR (W := W5) hHeld.1 b6), (keepR (W := W5) hHeld.2 b6)⟩ (fun hHeld => ?_)
    clear hK K
    try simp only [Act.put, pu1, pu2, pu3, pu4, pu5, pu6]
    obtain ⟨lo_n, hi_n, lo_np, hi_np, d1_n, d2_n, d3_n, d4_n, d5_n, d6_n, d7_n, oo_n, oo_np⟩ := Sr.pairN o_n6 o_np6 b6.size
    clear o_n6 o_np6
    obtain ⟨ao_n, L_n, cap_n, rfl, _, _⟩ := oo_n.form
    obtain ⟨ao_np, L_np, cap_np, rfl, _, _⟩ := oo_np.form
    have o_n6 : Hid (Own W6 lo_n hi_n 9 (.slice ao_n L_n cap_n) (ss [])) := oo_n
    have o_np6 : Hid (Own W6 lo_np hi_np 5 (.slice ao_np L_np cap_np) (bs [])) := oo_np
    clear oo_n oo_np
    have z6 : W5.heap.size ≤ W6.heap.size := b6.size
    have B6 : Hid (Below w.heap.size w W6) := B5.out.trans (b6.mono B5.out.size)
    have r_x6 : Hid (W6.heap[g_x]? = some (.cells #[.slice ao_x L_x cap_x, .int .i64 M.n, .string M.r] 31 (0, 0))) := rowKeep r_x5.out b6
    have o_l6 : Hid (Own W6 (w.heap.size) (W1.heap.size) 9 (.slice ao_l L_l cap_l) (ss l)) := Own.later o_l5.out b6 (by omega)
    have c_x6_0 : W6.cell? ⟨g_x, 0, none⟩ = some (.slice ao_x L_x cap_x) := row_at r_x6.out 0
    have c_x6_1 : W6.cell? ⟨g_x, 1, none⟩ = some (.int .i64 M.n) := row_at r_x6.out 1
    have c_x6_2 : W6.cell? ⟨g_x, 2, none⟩ = some (.string M.r) := row_at r_x6.out 2
    clear r_x5 c_x5_0 c_x5_1 c_x5_2 o_l5
    have f_t6 : Hid (Sh W6 (.slice (some ⟨W4.heap.size, 0, none⟩) 1 1) [M]) := Sh.later f_t5.out b6
    clear f_t5
    have D6 : Hid (Below W4.heap.size W4 W6) := D5.out.trans (b6.mono D5.out.size)
    refine wpAnyH_ready (rs := [5, 9]) (by kernel_rfl) (by simp) ?_
    refine AllReadyH.cons rfl (fun K hK => ?_) (AllReadyH.cons rfl (fun K hK => ?_) AllReadyH.nil)
    ·
     go_simp
     refine (q5 W6 _ _ _ _ B6.out o_n6.out.sl o_np6.out.sl f_t6.out o_l6.out.sl).mono ?_
     rintro e W7 ⟨v_s, v_sp, rfl, o_s7, o_sp7, b7⟩
     refine hK.out _ _ ⟨(keepR (W := W6) hHeld.1 b7), (keepR (W := W6) hHeld.2 b7)⟩ (fun hHeld => ?_)
     clear hK K
     try simp only [Act.put, pu1, pu2, pu3, pu4, pu5, pu6]
     obtain ⟨lo_s, hi_s, lo_sp, hi_sp, d1_s, d2_s, d3_s, d4_s, d5_s, d6_s, d7_s, oo_s, oo_sp⟩ := Sr.pairN o_s7 o_sp7 b7.size
     clear o_s7 o_sp7
     obtain ⟨ao_s, L_s, cap_s, rfl, _, _⟩ := oo_s.form
     obtain ⟨ao_sp, L_sp, cap_sp, rfl, _, _⟩ := oo_sp.form
     have o_s7 : Hid (Own W7 lo_s hi_s 9 (.slice ao_s L_s cap_s) (ss l)) := oo_s
     have o_sp7 : Hid (Own W7 lo_sp hi_sp 5 (.slice ao_sp L_sp cap_sp) (bs P)) := oo_sp
     clear oo_s oo_sp
     have z7 : W6.heap.size ≤ W7.heap.size := b7.size
     have B7 : Hid (Below w.heap.size w W7) := B6.out.trans (b7.mono B6.out.size)
     have r_x7 : Hid (W7.heap[g_x]? = some (.cells #[.slice ao_x L_x cap_x, .int .i64 M.n, .string M.r] 31 (0, 0))) := rowKeep r_x6.out b7
     have o_l7 : Hid (Own W7 (w.heap.size) (W1.heap.size) 9 (.slice ao_l L_l cap_l) (ss l)) := Own.later o_l6.out b7 (by omega)
     have o_n7 : Hid (Own W7 (lo_n) (hi_n) 9 (.slice ao_n L_n cap_n) (ss [])) := Own.later o_n6.out b7 (by omega)
     have o_np7 : Hid (Own W7 (lo_np) (hi_np) 5 (.slice ao_np L_np cap_np) (bs [])) := Own.later o_np6.out b7 (by omega)
     have c_x7_0 : W7.cell? ⟨g_x, 0, none⟩ = some (.slice ao_x L_x cap_x) := row_at r_x7.out 0
     have c_x7_1 : W7.cell? ⟨g_x, 1, none⟩ = some (.int .i64 M.n) := row_at r_x7.out 1
     have c_x7_2 : W7.cell? ⟨g_x, 2, none⟩ = some (.string M.r) := row_at r_x7.out 2
     clear r_x6 c_x6_0 c_x6_1 c_x6_2 o_l6 o_n6 o_np6
     have f_t7 : Hid (Sh W7 (.slice (some ⟨W4.heap.size, 0, none⟩) 1 1) [M]) := Sh.later f_t6.out b7
     clear f_t6
     have D7 : Hid (Below W4.heap.size W4 W7) := D6.out.trans (b7.mono D6.out.size)
     (refine wpAnyH_take (i := 6) (v := ?v6x51) rfl (by kernel_rfl) (by kernel_rfl) (by kernel_rfl) (fun _ _ _ h => h) (Or.inl ⟨by rfl, ?hy6x51⟩) (by assumption) ?rest6x51; case hy6x51 => (intro w hSw; (try dsimp only at hSw); go_split_ands; go_simp; (try with_reducible rfl)))
     try simp only [Act.put, pu1, pu2, pu3, pu4, pu5, pu6]
     (refine wpAnyH_take (i := 7) (v := ?v7x52) rfl (by kernel_rfl) (by kernel_rfl) (by kernel_rfl) (fun _ _ _ h => h) (Or.inl ⟨by rfl, ?hy7x52⟩) (by assumption) ?rest7x52; case hy7x52 => (intro w hSw; (try dsimp only at hSw); go_split_ands; go_simp; (try with_reducible rfl)))
     try simp only [Act.put, pu1, pu2, pu3, pu4, pu5, pu6]
     (refine wpAnyH_take (i := 8) (v := ?v8x53) rfl (by kernel_rfl) (by kernel_rfl) (by kernel_rfl) (fun _ _ _ h => h) (Or.inl ⟨by rfl, ?hy8x53⟩) (by assumption) ?rest8x53; case hy8x53 => (intro w hSw; (try dsimp only at hSw); go_split_ands; go_simp; (try with_reducible rfl)))
     try simp only [Act.put, pu1, pu2, pu3, pu4, pu5, pu6]
     refine wpAnyH_ready (rs := [9]) (by kernel_rfl) (by simp) ?_
     refine AllReadyH.cons rfl (fun K hK => ?_) AllReadyH.nil
     go_simp
     refine hK.out _ _ ⟨(keepR (W := W7) hHeld.1 ((Below.refl _ _).alloc (Nat.le_refl _) _)), (keepR (W := W7) hHeld.2 ((Below.refl _ _).alloc (Nat.le_refl _) _))⟩ (fun hHeld => ?_)
     clear hK K
     try simp only [Act.put, pu1, pu2, pu3, pu4, pu5, pu6]
     obtain ⟨W8, HW8, b8, y8, r_s8⟩ : ∃ X, Hid ((W7.alloc (.cells #[.slice none 0 0, .int .i64 0, .string ⟨#[]⟩, .slice none 0 0, .int .i64 0] 37)) = X) ∧ Below W7.heap.size W7 X ∧ W7.heap.size + 1 ≤ X.heap.size ∧ Hid (X.heap[W7.heap.size]? = some (.cells #[.slice none 0 0, .int .i64 0, .string ⟨#[]⟩, .slice none 0 0, .int .i64 0] 37 (0, 0))) := ⟨_, rfl, ((Below.refl _ _).alloc (Nat.le_refl _) _), (by show _ ≤ (W7.heap.push _).size; simp), heap_alloc_new W7 _⟩
     have HHW8 := HW8.out
     rw [HHW8] at hHeld ⊢
     clear HHW8
     have z8 : W7.heap.size ≤ W8.heap.size := b8.size
     have B8 : Hid (Below w.heap.size w W8) := B7.out.trans (b8.mono B7.out.size)
     have r_x8 : Hid (W8.heap[g_x]? = some (.cells #[.slice ao_x L_x cap_x, .int .i64 M.n, .string M.r] 31 (0, 0))) := rowKeep r_x7.out b8
     have o_l8 : Hid (Own W8 (w.heap.size) (W1.heap.size) 9 (.slice ao_l L_l cap_l) (ss l)) := Own.later o_l7.out b8 (by omega)
     have o_n8 : Hid (Own W8 (lo_n) (hi_n) 9 (.slice ao_n L_n cap_n) (ss [])) := Own.later o_n7.out b8 (by omega)
     have o_np8 : Hid (Own W8 (lo_np) (hi_np) 5 (.slice ao_np L_np cap_np) (bs [])) := Own.later o_np7.out b8 (by omega)
     have o_s8 : Hid (Own W8 (lo_s) (hi_s) 9 (.slice ao_s L_s cap_s) (ss l)) := Own.later o_s7.out b8 (by omega)
     have o_sp8 : Hid (Own W8 (lo_sp) (hi_sp) 5 (.slice ao_sp L_sp cap_sp) (bs P)) := Own.later o_sp7.out b8 (by omega)
     have c_x8_0 : W8.cell? ⟨g_x, 0, none⟩ = some (.slice ao_x L_x cap_x) := row_at r_x8.out 0
     have c_x8_1 : W8.cell? ⟨g_x, 1, none⟩ = some (.int .i64 M.n) := row_at r_x8.out 1
     have c_x8_2 : W8.cell? ⟨g_x, 2, none⟩ = some (.string M.r) := row_at r_x8.out 2
     have c_s8_0 : W8.cell? ⟨W7.heap.size, 0, none⟩ = some (.slice none 0 0) := row_at r_s8.out 0
     have c_s8_1 : W8.cell? ⟨W7.heap.size, 1, none⟩ = some (.int .i64 0) := row_at r_s8.out 1
     have c_s8_2 : W8.cell? ⟨W7.heap.size, 2, none⟩ = some (.string ⟨#[]⟩) := row_at r_s8.out 2
     have c_s8_3 : W8.cell? ⟨W7.heap.size, 3, none⟩ = some (.slice none 0 0) := row_at r_s8.out 3
     have c_s8_4 : W8.cell? ⟨W7.heap.size, 4, none⟩ = some (.int .i64 0) := row_at r_s8.out 4
     clear r_x7 c_x7_0 c_x7_1 c_x7_2 o_l7 o_n7 o_np7 o_s7 o_sp7
     have f_t8 : Hid (Sh W8 (.slice (some ⟨W4.heap.size, 0, none⟩) 1 1) [M]) := Sh.later f_t7.out b8
     clear f_t7
     have D8 : Hid (Below W4.heap.size W4 W8) := D7.out.trans (b8.mono D7.out.size)
     refine wpAnyH_ready (rs := [10]) (by kernel_rfl) (by simp) ?_
     refine AllReadyH.cons rfl (fun K hK => ?_) AllReadyH.nil
     rw [if_pos (by rfl)]
     refine wp_store_row 37 _ _ rfl (W7.heap.size) (sc (.slice ao_s L_s cap_s) M (.slice ao_sp L_sp cap_sp) 0) rfl rfl 37 _ r_s8.out (sizeS _ _ _ _) rfl (oneS _ _ rfl rfl) ?_
     refine hK.out _ _ ⟨(cell_row (by show W2.heap.size ≠ W7.heap.size; omega) hHeld.1), (cell_row (by show W2.heap.size ≠ W7.heap.size; omega) hHeld.2)⟩ (fun hHeld => ?_)
     clear hK K
     try simp only [Act.put, pu1, pu2, pu3, pu4, pu5, pu6]
     have D9a : Below W4.heap.size W4 (W8.setRow (W7.heap.size) (sc (.slice ao_s L_s cap_s) M (.slice ao_sp L_sp cap_sp) 0)) := below_setRow D8.out (by omega) _
     obtain ⟨W9, HW9⟩ : ∃ X, Hid (W8.setRow (W7.heap.size) (sc (.slice ao_s L_s cap_s) M (.slice ao_sp L_sp cap_sp) 0) = X) := ⟨_, rfl⟩
     have z9 : W8.heap.size ≤ W9.heap.size := by rw [← HW9.out]; simp
     have B9 : Hid (Below w.heap.size w W9) := by show Below _ _ _; rw [← HW9.out]; exact below_setRow B8.out (by have := B8.out.size; omega) _
     have r_x9 : Hid (W9.heap[g_x]? = some (.cells #[.slice ao_x L_x cap_x, .int .i64 M.n, .string M.r] 31 (0, 0))) := by show _ = _; rw [← HW9.out]; exact (setRow_other _ _ _ _ (by omega)).trans r_x8.out
     have o_l9 : Hid (Own W9 (w.heap.size) (W1.heap.size) 9 (.slice ao_l L_l cap_l) (ss l)) := by show Own _ _ _ _ _ _; rw [← HW9.out]; exact Own.setRow o_l8.out _ (by omega)
     have o_n9 : Hid (Own W9 (lo_n) (hi_n) 9 (.slice ao_n L_n cap_n) (ss [])) := by show Own _ _ _ _ _ _; rw [← HW9.out]; exact Own.setRow o_n8.out _ (by omega)
     have o_np9 : Hid (Own W9 (lo_np) (hi_np) 5 (.slice ao_np L_np cap_np) (bs [])) := by show Own _ _ _ _ _ _; rw [← HW9.out]; exact Own.setRow o_np8.out _ (by omega)
     have o_s9 : Hid (Own W9 (lo_s) (hi_s) 9 (.slice ao_s L_s cap_s) (ss l)) := by show Own _ _ _ _ _ _; rw [← HW9.out]; exact Own.setRow o_s8.out _ (by omega)
     have o_sp9 : Hid (Own W9 (lo_sp) (hi_sp) 5 (.slice ao_sp L_sp cap_sp) (bs P)) := by show Own _ _ _ _ _ _; rw [← HW9.out]; exact Own.setRow o_sp8.out _ (by omega)
     have r_s9 : Hid (W9.heap[W7.heap.size]? = some (.cells #[.slice ao_s L_s cap_s, .int .i64 M.n, .string M.r, .slice ao_sp L_sp cap_sp, .int .i64 0] 37 (0, 0))) := by show _ = _; rw [← HW9.out]; exact setRow_heap _ _ _ _ _ (0, 0) r_s8.out
     rw [HW9.out]
     clear r_x8 c_x8_0 c_x8_1 c_x8_2 r_s8 c_s8_0 c_s8_1 c_s8_2 c_s8_3 c_s8_4 o_l8 o_n8 o_np8 o_s8 o_sp8
     have c_x9_0 : W9.cell? ⟨g_x, 0, none⟩ = some (.slice ao_x L_x cap_x) := row_at r_x9.out 0
     have c_x9_1 : W9.cell? ⟨g_x, 1, none⟩ = some (.int .i64 M.n) := row_at r_x9.out 1
     have c_x9_2 : W9.cell? ⟨g_x, 2, none⟩ = some (.string M.r) := row_at r_x9.out 2
     have c_s9_0 : W9.cell? ⟨W7.heap.size, 0, none⟩ = some (.slice ao_s L_s cap_s) := row_at r_s9.out 0
     have c_s9_1 : W9.cell? ⟨W7.heap.size, 1, none⟩ = some (.int .i64 M.n) := row_at r_s9.out 1
     have c_s9_2 : W9.cell? ⟨W7.heap.size, 2, none⟩ = some (.string M.r) := row_at r_s9.out 2
     have c_s9_3 : W9.cell? ⟨W7.heap.size, 3, none⟩ = some (.slice ao_sp L_sp cap_sp) := row_at r_s9.out 3
     have c_s9_4 : W9.cell? ⟨W7.heap.size, 4, none⟩ = some (.int .i64 0) := row_at r_s9.out 4
     rw [HW9.out] at hHeld
     have D9 : Hid (Below W4.heap.size W4 W9) := by show Below _ _ _; rw [← HW9.out]; exact D9a
     (refine wpAnyH_take (i := 11) (v := ?v11x54) rfl (by kernel_rfl) (by kernel_rfl) (by kernel_rfl) (fun _ _ _ h => h) (Or.inl ⟨by rfl, ?hy11x54⟩) (by assumption) ?rest11x54; case hy11x54 => (intro w hSw; (try dsimp only at hSw); go_split_ands; go_simp; (try with_reducible rfl)))
     try simp only [Act.put, pu1, pu2, pu3, pu4, pu5, pu6]
     refine wpAnyH_done (by kernel_rfl) ?_ _
     clear hHeld
     go_wp2_with fail
     go_meet
     exact ⟨W7.heap.size, rfl, rfl, by omega, (Array.getElem?_eq_some_iff.1 r_s9.out).1, D9.out, lo_s, hi_s, ao_s, L_s, cap_s, lo_sp, hi_sp, ao_sp, L_sp, cap_sp, by omega, by omega, by omega, by omega, by omega, by omega, by omega, o_s9.out, o_sp9.out, by omega, by omega, r_s9.out⟩
    ·
     go_simp
     refine hK.out _ _ ⟨(keepR (W := W6) hHeld.1 ((Below.refl _ _).alloc (Nat.le_refl _) _)), (keepR (W := W6) hHeld.2 ((Below.refl _ _).alloc (Nat.le_refl _) _))⟩ (fun hHeld => ?_)
     clear hK K
     try simp only [Act.put, pu1, pu2, pu3, pu4, pu5, pu6]
     obtain ⟨W7, HW7, b7, y7, r_s7⟩ : ∃ X, Hid ((W6.alloc (.cells #[.slice none 0 0, .int .i64 0, .string ⟨#[]⟩, .slice none 0 0, .int .i64 0] 37)) = X) ∧ Below W6.heap.size W6 X ∧ W6.heap.size + 1 ≤ X.heap.size ∧ Hid (X.heap[W6.heap.size]? = some (.cells #[.slice none 0 0, .int .i64 0, .string ⟨#[]⟩, .slice none 0 0, .int .i64 0] 37 (0, 0))) := ⟨_, rfl, ((Below.refl _ _).alloc (Nat.le_refl _) _), (by show _ ≤ (W6.heap.push _).size; simp), heap_alloc_new W6 _⟩
     have HHW7 := HW7.out
     rw [HHW7] at hHeld ⊢
     clear HHW7
     have z7 : W6.heap.size ≤ W7.heap.size := b7.size
     have B7 : Hid (Below w.heap.size w W7) := B6.out.trans (b7.mono B6.out.size)
     have r_x7 : Hid (W7.heap[g_x]? = some (.cells #[.slice ao_x L_x cap_x, .int .i64 M.n, .string M.r] 31 (0, 0))) := rowKeep r_x6.out b7
     have o_l7 : Hid (Own W7 (w.heap.size) (W1.heap.size) 9 (.slice ao_l L_l cap_l) (ss l)) := Own.later o_l6.out b7 (by omega)
     have o_n7 : Hid (Own W7 (lo_n) (hi_n) 9 (.slice ao_n L_n cap_n) (ss [])) := Own.later o_n6.out b7 (by omega)
     have o_np7 : Hid (Own W7 (lo_np) (hi_np) 5 (.slice ao_np L_np cap_np) (bs [])) := Own.later o_np6.out b7 (by omega)
     have c_x7_0 : W7.cell? ⟨g_x, 0, none⟩ = some (.slice ao_x L_x cap_x) := row_at r_x7.out 0
     have c_x7_1 : W7.cell? ⟨g_x, 1, none⟩ = some (.int .i64 M.n) := row_at r_x7.out 1
     have c_x7_2 : W7.cell? ⟨g_x, 2, none⟩ = some (.string M.r) := row_at r_x7.out 2
     have c_s7_0 : W7.cell? ⟨W6.heap.size, 0, none⟩ = some (.slice none 0 0) := row_at r_s7.out 0
     have c_s7_1 : W7.cell? ⟨W6.heap.size, 1, none⟩ = some (.int .i64 0) := row_at r_s7.out 1
     have c_s7_2 : W7.cell? ⟨W6.heap.size, 2, none⟩ = some (.string ⟨#[]⟩) := row_at r_s7.out 2
     have c_s7_3 : W7.cell? ⟨W6.heap.size, 3, none⟩ = some (.slice none 0 0) := row_at r_s7.out 3
     have c_s7_4 : W7.cell? ⟨W6.heap.size, 4, none⟩ = some (.int .i64 0) := row_at r_s7.out 4
     clear r_x6 c_x6_0 c_x6_1 c_x6_2 o_l6 o_n6 o_np6
     have f_t7 : Hid (Sh W7 (.slice (some ⟨W4.heap.size, 0, none⟩) 1 1) [M]) := Sh.later f_t6.out b7
     clear f_t6
     have D7 : Hid (Below W4.heap.size W4 W7) := D6.out.trans (b7.mono D6.out.size)
     refine wpAnyH_ready (rs := [5]) (by kernel_rfl) (by simp) ?_
     refine AllReadyH.cons rfl (fun K hK => ?_) AllReadyH.nil
     go_simp
     refine (q5 W7 _ _ _ _ B7.out o_n7.out.sl o_np7.out.sl f_t7.out o_l7.out.sl).mono ?_
     rintro e W8 ⟨v_s, v_sp, rfl, o_s8, o_sp8, b8⟩
     refine hK.out _ _ ⟨(keepR (W := W7) hHeld.1 b8), (keepR (W := W7) hHeld.2 b8)⟩ (fun hHeld => ?_)
     clear hK K
     try simp only [Act.put, pu1, pu2, pu3, pu4, pu5, pu6]
     obtain ⟨lo_s, hi_s, lo_sp, hi_sp, d1_s, d2_s, d3_s, d4_s, d5_s, d6_s, d7_s, oo_s, oo_sp⟩ := Sr.pairN o_s8 o_sp8 b8.size
     clear o_s8 o_sp8
     obtain ⟨ao_s, L_s, cap_s, rfl, _, _⟩ := oo_s.form
     obtain ⟨ao_sp, L_sp, cap_sp, rfl, _, _⟩ := oo_sp.form
     have o_s8 : Hid (Own W8 lo_s hi_s 9 (.slice ao_s L_s cap_s) (ss l)) := oo_s
     have o_sp8 : Hid (Own W8 lo_sp hi_sp 5 (.slice ao_sp L_sp cap_sp) (bs P)) := oo_sp
     clear oo_s oo_sp
     have z8 : W7.heap.size ≤ W8.heap.size := b8.size
     have B8 : Hid (Below w.heap.size w W8) := B7.out.trans (b8.mono B7.out.size)
     have r_x8 : Hid (W8.heap[g_x]? = some (.cells #[.slice ao_x L_x cap_x, .int .i64 M.n, .string M.r] 31 (0, 0))) := rowKeep r_x7.out b8
     have r_s8 : Hid (W8.heap[W6.heap.size]? = some (.cells #[.slice none 0 0, .int .i64 0, .string ⟨#[]⟩, .slice none 0 0, .int .i64 0] 37 (0, 0))) := rowKeep r_s7.out b8
     have o_l8 : Hid (Own W8 (w.heap.size) (W1.heap.size) 9 (.slice ao_l L_l cap_l) (ss l)) := Own.later o_l7.out b8 (by omega)
     have o_n8 : Hid (Own W8 (lo_n) (hi_n) 9 (.slice ao_n L_n cap_n) (ss [])) := Own.later o_n7.out b8 (by omega)
     have o_np8 : Hid (Own W8 (lo_np) (hi_np) 5 (.slice ao_np L_np cap_np) (bs [])) := Own.later o_np7.out b8 (by omega)
     have c_x8_0 : W8.cell? ⟨g_x, 0, none⟩ = some (.slice ao_x L_x cap_x) := row_at r_x8.out 0
     have c_x8_1 : W8.cell? ⟨g_x, 1, none⟩ = some (.int .i64 M.n) := row_at r_x8.out 1
     have c_x8_2 : W8.cell? ⟨g_x, 2, none⟩ = some (.string M.r) := row_at r_x8.out 2
     have c_s8_0 : W8.cell? ⟨W6.heap.size, 0, none⟩ = some (.slice none 0 0) := row_at r_s8.out 0
     have c_s8_1 : W8.cell? ⟨W6.heap.size, 1, none⟩ = some (.int .i64 0) := row_at r_s8.out 1
     have c_s8_2 : W8.cell? ⟨W6.heap.size, 2, none⟩ = some (.string ⟨#[]⟩) := row_at r_s8.out 2
     have c_s8_3 : W8.cell? ⟨W6.heap.size, 3, none⟩ = some (.slice none 0 0) := row_at r_s8.out 3
     have c_s8_4 : W8.cell? ⟨W6.heap.size, 4, none⟩ = some (.int .i64 0) := row_at r_s8.out 4
     clear r_x7 c_x7_0 c_x7_1 c_x7_2 r_s7 c_s7_0 c_s7_1 c_s7_2 c_s7_3 c_s7_4 o_l7 o_n7 o_np7
     have f_t8 : Hid (Sh W8 (.slice (some ⟨W4.heap.size, 0, none⟩) 1 1) [M]) := Sh.later f_t7.out b8
     clear f_t7
     have D8 : Hid (Below W4.heap.size W4 W8) := D7.out.trans (b8.mono D7.out.size)
     (refine wpAnyH_take (i := 6) (v := ?v6x55) rfl (by kernel_rfl) (by kernel_rfl) (by kernel_rfl) (fun _ _ _ h => h) (Or.inl ⟨by rfl, ?hy6x55⟩) (by assumption) ?rest6x55; case hy6x55 => (intro w hSw; (try dsimp only at hSw); go_split_ands; go_simp; (try with_reducible rfl)))
     try simp only [Act.put, pu1, pu2, pu3, pu4, pu5, pu6]
     (refine wpAnyH_take (i := 7) (v := ?v7x56) rfl (by kernel_rfl) (by kernel_rfl) (by kernel_rfl) (fun _ _ _ h => h) (Or.inl ⟨by rfl, ?hy7x56⟩) (by assumption) ?rest7x56; case hy7x56 => (intro w hSw; (try dsimp only at hSw); go_split_ands; go_simp; (try with_reducible rfl)))
     try simp only [Act.put, pu1, pu2, pu3, pu4, pu5, pu6]
     (refine wpAnyH_take (i := 8) (v := ?v8x57) rfl (by kernel_rfl) (by kernel_rfl) (by kernel_rfl) (fun _ _ _ h => h) (Or.inl ⟨by rfl, ?hy8x57⟩) (by assumption) ?rest8x57; case hy8x57 => (intro w hSw; (try dsimp only at hSw); go_split_ands; go_simp; (try with_reducible rfl)))
     try simp only [Act.put, pu1, pu2, pu3, pu4, pu5, pu6]
     refine wpAnyH_ready (rs := [10]) (by kernel_rfl) (by simp) ?_
     refine AllReadyH.cons rfl (fun K hK => ?_) AllReadyH.nil
     rw [if_pos (by rfl)]
     refine wp_store_row 37 _ _ rfl (W6.heap.size) (sc (.slice ao_s L_s cap_s) M (.slice ao_sp L_sp cap_sp) 0) rfl rfl 37 _ r_s8.out (sizeS _ _ _ _) rfl (oneS _ _ rfl rfl) ?_
     refine hK.out _ _ ⟨(cell_row (by show W2.heap.size ≠ W6.heap.size; omega) hHeld.1), (cell_row (by show W2.heap.size ≠ W6.heap.size; omega) hHeld.2)⟩ (fun hHeld => ?_)
     clear hK K
     try simp only [Act.put, pu1, pu2, pu3, pu4, pu5, pu6]
     have D9a : Below W4.heap.size W4 (W8.setRow (W6.heap.size) (sc (.slice ao_s L_s cap_s) M (.slice ao_sp L_sp cap_sp) 0)) := below_setRow D8.out (by omega) _
     obtain ⟨W9, HW9⟩ : ∃ X, Hid (W8.setRow (W6.heap.size) (sc (.slice ao_s L_s cap_s) M (.slice ao_sp L_sp cap_sp) 0) = X) := ⟨_, rfl⟩
     have z9 : W8.heap.size ≤ W9.heap.size := by rw [← HW9.out]; simp
     have B9 : Hid (Below w.heap.size w W9) := by show Below _ _ _; rw [← HW9.out]; exact below_setRow B8.out (by have := B8.out.size; omega) _
     have r_x9 : Hid (W9.heap[g_x]? = some (.cells #[.slice ao_x L_x cap_x, .int .i64 M.n, .string M.r] 31 (0, 0))) := by show _ = _; rw [← HW9.out]; exact (setRow_other _ _ _ _ (by omega)).trans r_x8.out
     have o_l9 : Hid (Own W9 (w.heap.size) (W1.heap.size) 9 (.slice ao_l L_l cap_l) (ss l)) := by show Own _ _ _ _ _ _; rw [← HW9.out]; exact Own.setRow o_l8.out _ (by omega)
     have o_n9 : Hid (Own W9 (lo_n) (hi_n) 9 (.slice ao_n L_n cap_n) (ss [])) := by show Own _ _ _ _ _ _; rw [← HW9.out]; exact Own.setRow o_n8.out _ (by omega)
     have o_np9 : Hid (Own W9 (lo_np) (hi_np) 5 (.slice ao_np L_np cap_np) (bs [])) := by show Own _ _ _ _ _ _; rw [← HW9.out]; exact Own.setRow o_np8.out _ (by omega)
     have o_s9 : Hid (Own W9 (lo_s) (hi_s) 9 (.slice ao_s L_s cap_s) (ss l)) := by show Own _ _ _ _ _ _; rw [← HW9.out]; exact Own.setRow o_s8.out _ (by omega)
     have o_sp9 : Hid (Own W9 (lo_sp) (hi_sp) 5 (.slice ao_sp L_sp cap_sp) (bs P)) := by show Own _ _ _ _ _ _; rw [← HW9.out]; exact Own.setRow o_sp8.out _ (by omega)
     have r_s9 : Hid (W9.heap[W6.heap.size]? = some (.cells #[.slice ao_s L_s cap_s, .int .i64 M.n, .string M.r, .slice ao_sp L_sp cap_sp, .int .i64 0] 37 (0, 0))) := by show _ = _; rw [← HW9.out]; exact setRow_heap _ _ _ _ _ (0, 0) r_s8.out
     rw [HW9.out]
     clear r_x8 c_x8_0 c_x8_1 c_x8_2 r_s8 c_s8_0 c_s8_1 c_s8_2 c_s8_3 c_s8_4 o_l8 o_n8 o_np8 o_s8 o_sp8
     have c_x9_0 : W9.cell? ⟨g_x, 0, none⟩ = some (.slice ao_x L_x cap_x) := row_at r_x9.out 0
     have c_x9_1 : W9.cell? ⟨g_x, 1, none⟩ = some (.int .i64 M.n) := row_at r_x9.out 1
     have c_x9_2 : W9.cell? ⟨g_x, 2, none⟩ = some (.string M.r) := row_at r_x9.out 2
     have c_s9_0 : W9.cell? ⟨W6.heap.size, 0, none⟩ = some (.slice ao_s L_s cap_s) := row_at r_s9.out 0
     have c_s9_1 : W9.cell? ⟨W6.heap.size, 1, none⟩ = some (.int .i64 M.n) := row_at r_s9.out 1
     have c_s9_2 : W9.cell? ⟨W6.heap.size, 2, none⟩ = some (.string M.r) := row_at r_s9.out 2
     have c_s9_3 : W9.cell? ⟨W6.heap.size, 3, none⟩ = some (.slice ao_sp L_sp cap_sp) := row_at r_s9.out 3
     have c_s9_4 : W9.cell? ⟨W6.heap.size, 4, none⟩ = some (.int .i64 0) := row_at r_s9.out 4
     rw [HW9.out] at hHeld
     have D9 : Hid (Below W4.heap.size W4 W9) := by show Below _ _ _; rw [← HW9.out]; exact D9a
     (refine wpAnyH_take (i := 11) (v := ?v11x58) rfl (by kernel_rfl) (by kernel_rfl) (by kernel_rfl) (fun _ _ _ h => h) (Or.inl ⟨by rfl, ?hy11x58⟩) (by assumption) ?rest11x58; case hy11x58 => (intro w hSw; (try dsimp only at hSw); go_split_ands; go_simp; (try with_reducible rfl)))
     try simp only [Act.put, pu1, pu2, pu3, pu4, pu5, pu6]
     refine wpAnyH_done (by kernel_rfl) ?_ _
     clear hHeld
     go_wp2_with fail
     go_meet
     exact ⟨W6.heap.size, rfl, rfl, by omega, (Array.getElem?_eq_some_iff.1 r_s9.out).1, D9.out, lo_s, hi_s, ao_s, L_s, cap_s, lo_sp, hi_sp, ao_sp, L_sp, cap_sp, by omega, by omega, by omega, by omega, by omega, by omega, by omega, o_s9.out, o_sp9.out, by omega, by omega, r_s9.out⟩
   ·
    go_simp
    refine hK.out _ _ ⟨(keepR (W := W5) hHeld.1 ((Below.refl _ _).alloc (Nat.le_refl _) _)), (keepR (W := W5) hHeld.2 ((Below.refl _ _).alloc (Nat.le_refl _) _))⟩ (fun hHeld => ?_)
    clear hK K
    try simp only [Act.put, pu1, pu2, pu3, pu4, pu5, pu6]
    obtain ⟨W6, HW6, b6, y6, r_s6⟩ : ∃ X, Hid ((W5.alloc (.cells #[.slice none 0 0, .int .i64 0, .string ⟨#[]⟩, .slice none 0 0, .int .i64 0] 37)) = X) ∧ Below W5.heap.size W5 X ∧ W5.heap.size + 1 ≤ X.heap.size ∧ Hid (X.heap[W5.heap.size]? = some (.cells #[.slice none 0 0, .int .i64 0, .string ⟨#[]⟩, .slice none 0 0, .int .i64 0] 37 (0, 0))) := ⟨_, rfl, ((Below.refl _ _).alloc (Nat.le_refl _) _), (by show _ ≤ (W5.heap.push _).size; simp), heap_alloc_new W5 _⟩
    have HHW6 := HW6.out
    rw [HHW6] at hHeld ⊢
    clear HHW6
    have z6 : W5.heap.size ≤ W6.heap.size := b6.size
    have B6 : Hid (Below w.heap.size w W6) := B5.out.trans (b6.mono B5.out.size)
    have r_x6 : Hid (W6.heap[g_x]? = some (.cells #[.slice ao_x L_x cap_x, .int .i64 M.n, .string M.r] 31 (0, 0))) := rowKeep r_x5.out b6
    have o_l6 : Hid (Own W6 (w.heap.size) (W1.heap.size) 9 (.slice ao_l L_l cap_l) (ss l)) := Own.later o_l5.out b6 (by omega)
    have c_x6_0 : W6.cell? ⟨g_x, 0, none⟩ = some (.slice ao_x L_x cap_x) := row_at r_x6.out 0
    have c_x6_1 : W6.cell? ⟨g_x, 1, none⟩ = some (.int .i64 M.n) := row_at r_x6.out 1
    have c_x6_2 : W6.cell? ⟨g_x, 2, none⟩ = some (.string M.r) := row_at r_x6.out 2
    have c_s6_0 : W6.cell? ⟨W5.heap.size, 0, none⟩ = some (.slice none 0 0) := row_at r_s6.out 0
    have c_s6_1 : W6.cell? ⟨W5.heap.size, 1, none⟩ = some (.int .i64 0) := row_at r_s6.out 1
    have c_s6_2 : W6.cell? ⟨W5.heap.size, 2, none⟩ = some (.string ⟨#[]⟩) := row_at r_s6.out 2
    have c_s6_3 : W6.cell? ⟨W5.heap.size, 3, none⟩ = some (.slice none 0 0) := row_at r_s6.out 3
    have c_s6_4 : W6.cell? ⟨W5.heap.size, 4, none⟩ = some (.int .i64 0) := row_at r_s6.out 4
    clear r_x5 c_x5_0 c_x5_1 c_x5_2 o_l5
    have f_t6 : Hid (Sh W6 (.slice (some ⟨W4.heap.size, 0, none⟩) 1 1) [M]) := Sh.later f_t5.out b6
    clear f_t5
    have D6 : Hid (Below W4.heap.size W4 W6) := D5.out.trans (b6.mono D5.out.size)
    refine wpAnyH_ready (rs := [0]) (by kernel_rfl) (by simp) ?_
    refine AllReadyH.cons rfl (fun K hK => ?_) AllReadyH.nil
    go_simp
    refine (iSNew W6 B6.out).mono ?_
    rintro e W7 ⟨v_n, v_np, rfl, o_n7, o_np7, b7⟩
    refine hK.out _ _ ⟨(keepR (W := W6) hHeld.1 b7), (keepR (W := W6) hHeld.2 b7)⟩ (fun hHeld => ?_)
    clear hK K
    try simp only [Act.put, pu1, pu2, pu3, pu4, pu5, pu6]
    obtain ⟨lo_n, hi_n, lo_np, hi_np, d1_n, d2_n, d3_n, d4_n, d5_n, d6_n, d7_n, oo_n, oo_np⟩ := Sr.pairN o_n7 o_np7 b7.size
    clear o_n7 o_np7
    obtain ⟨ao_n, L_n, cap_n, rfl, _, _⟩ := oo_n.form
    obtain ⟨ao_np, L_np, cap_np, rfl, _, _⟩ := oo_np.form
    have o_n7 : Hid (Own W7 lo_n hi_n 9 (.slice ao_n L_n cap_n) (ss [])) := oo_n
    have o_np7 : Hid (Own W7 lo_np hi_np 5 (.slice ao_np L_np cap_np) (bs [])) := oo_np
    clear oo_n oo_np
    have z7 : W6.heap.size ≤ W7.heap.size := b7.size
    have B7 : Hid (Below w.heap.size w W7) := B6.out.trans (b7.mono B6.out.size)
    have r_x7 : Hid (W7.heap[g_x]? = some (.cells #[.slice ao_x L_x cap_x, .int .i64 M.n, .string M.r] 31 (0, 0))) := rowKeep r_x6.out b7
    have r_s7 : Hid (W7.heap[W5.heap.size]? = some (.cells #[.slice none 0 0, .int .i64 0, .string ⟨#[]⟩, .slice none 0 0, .int .i64 0] 37 (0, 0))) := rowKeep r_s6.out b7
    have o_l7 : Hid (Own W7 (w.heap.size) (W1.heap.size) 9 (.slice ao_l L_l cap_l) (ss l)) := Own.later o_l6.out b7 (by omega)
    have c_x7_0 : W7.cell? ⟨g_x, 0, none⟩ = some (.slice ao_x L_x cap_x) := row_at r_x7.out 0
    have c_x7_1 : W7.cell? ⟨g_x, 1, none⟩ = some (.int .i64 M.n) := row_at r_x7.out 1
    have c_x7_2 : W7.cell? ⟨g_x, 2, none⟩ = some (.string M.r) := row_at r_x7.out 2
    have c_s7_0 : W7.cell? ⟨W5.heap.size, 0, none⟩ = some (.slice none 0 0) := row_at r_s7.out 0
    have c_s7_1 : W7.cell? ⟨W5.heap.size, 1, none⟩ = some (.int .i64 0) := row_at r_s7.out 1
    have c_s7_2 : W7.cell? ⟨W5.heap.size, 2, none⟩ = some (.string ⟨#[]⟩) := row_at r_s7.out 2
    have c_s7_3 : W7.cell? ⟨W5.heap.size, 3, none⟩ = some (.slice none 0 0) := row_at r_s7.out 3
    have c_s7_4 : W7.cell? ⟨W5.heap.size, 4, none⟩ = some (.int .i64 0) := row_at r_s7.out 4
    clear r_x6 c_x6_0 c_x6_1 c_x6_2 r_s6 c_s6_0 c_s6_1 c_s6_2 c_s6_3 c_s6_4 o_l6
    have f_t7 : Hid (Sh W7 (.slice (some ⟨W4.heap.size, 0, none⟩) 1 1) [M]) := Sh.later f_t6.out b7
    clear f_t6
    have D7 : Hid (Below W4.heap.size W4 W7) := D6.out.trans (b7.mono D6.out.size)
    refine wpAnyH_ready (rs := [5]) (by kernel_rfl) (by simp) ?_
    refine AllReadyH.cons rfl (fun K hK => ?_) AllReadyH.nil
    go_simp
    refine (q5 W7 _ _ _ _ B7.out o_n7.out.sl o_np7.out.sl f_t7.out o_l7.out.sl).mono ?_
    rintro e W8 ⟨v_s, v_sp, rfl, o_s8, o_sp8, b8⟩
    refine hK.out _ _ ⟨(keepR (W := W7) hHeld.1 b8), (keepR (W := W7) hHeld.2 b8)⟩ (fun hHeld => ?_)
    clear hK K
    try simp only [Act.put, pu1, pu2, pu3, pu4, pu5, pu6]
    obtain ⟨lo_s, hi_s, lo_sp, hi_sp, d1_s, d2_s, d3_s, d4_s, d5_s, d6_s, d7_s, oo_s, oo_sp⟩ := Sr.pairN o_s8 o_sp8 b8.size
    clear o_s8 o_sp8
    obtain ⟨ao_s, L_s, cap_s, rfl, _, _⟩ := oo_s.form
    obtain ⟨ao_sp, L_sp, cap_sp, rfl, _, _⟩ := oo_sp.form
    have o_s8 : Hid (Own W8 lo_s hi_s 9 (.slice ao_s L_s cap_s) (ss l)) := oo_s
    have o_sp8 : Hid (Own W8 lo_sp hi_sp 5 (.slice ao_sp L_sp cap_sp) (bs P)) := oo_sp
    clear oo_s oo_sp
    have z8 : W7.heap.size ≤ W8.heap.size := b8.size
    have B8 : Hid (Below w.heap.size w W8) := B7.out.trans (b8.mono B7.out.size)
    have r_x8 : Hid (W8.heap[g_x]? = some (.cells #[.slice ao_x L_x cap_x, .int .i64 M.n, .string M.r] 31 (0, 0))) := rowKeep r_x7.out b8
    have r_s8 : Hid (W8.heap[W5.heap.size]? = some (.cells #[.slice none 0 0, .int .i64 0, .string ⟨#[]⟩, .slice none 0 0, .int .i64 0] 37 (0, 0))) := rowKeep r_s7.out b8
    have o_l8 : Hid (Own W8 (w.heap.size) (W1.heap.size) 9 (.slice ao_l L_l cap_l) (ss l)) := Own.later o_l7.out b8 (by omega)
    have o_n8 : Hid (Own W8 (lo_n) (hi_n) 9 (.slice ao_n L_n cap_n) (ss [])) := Own.later o_n7.out b8 (by omega)
    have o_np8 : Hid (Own W8 (lo_np) (hi_np) 5 (.slice ao_np L_np cap_np) (bs [])) := Own.later o_np7.out b8 (by omega)
    have c_x8_0 : W8.cell? ⟨g_x, 0, none⟩ = some (.slice ao_x L_x cap_x) := row_at r_x8.out 0
    have c_x8_1 : W8.cell? ⟨g_x, 1, none⟩ = some (.int .i64 M.n) := row_at r_x8.out 1
    have c_x8_2 : W8.cell? ⟨g_x, 2, none⟩ = some (.string M.r) := row_at r_x8.out 2
    have c_s8_0 : W8.cell? ⟨W5.heap.size, 0, none⟩ = some (.slice none 0 0) := row_at r_s8.out 0
    have c_s8_1 : W8.cell? ⟨W5.heap.size, 1, none⟩ = some (.int .i64 0) := row_at r_s8.out 1
    have c_s8_2 : W8.cell? ⟨W5.heap.size, 2, none⟩ = some (.string ⟨#[]⟩) := row_at r_s8.out 2
    have c_s8_3 : W8.cell? ⟨W5.heap.size, 3, none⟩ = some (.slice none 0 0) := row_at r_s8.out 3
    have c_s8_4 : W8.cell? ⟨W5.heap.size, 4, none⟩ = some (.int .i64 0) := row_at r_s8.out 4
    clear r_x7 c_x7_0 c_x7_1 c_x7_2 r_s7 c_s7_0 c_s7_1 c_s7_2 c_s7_3 c_s7_4 o_l7 o_n7 o_np7
    have f_t8 : Hid (Sh W8 (.slice (some ⟨W4.heap.size, 0, none⟩) 1 1) [M]) := Sh.later f_t7.out b8
    clear f_t7
    have D8 : Hid (Below W4.heap.size W4 W8) := D7.out.trans (b8.mono D7.out.size)
    (refine wpAnyH_take (i := 6) (v := ?v6x59) rfl (by kernel_rfl) (by kernel_rfl) (by kernel_rfl) (fun _ _ _ h => h) (Or.inl ⟨by rfl, ?hy6x59⟩) (by assumption) ?rest6x59; case hy6x59 => (intro w hSw; (try dsimp only at hSw); go_split_ands; go_simp; (try with_reducible rfl)))
    try simp only [Act.put, pu1, pu2, pu3, pu4, pu5, pu6]
    (refine wpAnyH_take (i := 7) (v := ?v7x60) rfl (by kernel_rfl) (by kernel_rfl) (by kernel_rfl) (fun _ _ _ h => h) (Or.inl ⟨by rfl, ?hy7x60⟩) (by assumption) ?rest7x60; case hy7x60 => (intro w hSw; (try dsimp only at hSw); go_split_ands; go_simp; (try with_reducible rfl)))
    try simp only [Act.put, pu1, pu2, pu3, pu4, pu5, pu6]
    (refine wpAnyH_take (i := 8) (v := ?v8x61) rfl (by kernel_rfl) (by kernel_rfl) (by kernel_rfl) (fun _ _ _ h => h) (Or.inl ⟨by rfl, ?hy8x61⟩) (by assumption) ?rest8x61; case hy8x61 => (intro w hSw; (try dsimp only at hSw); go_split_ands; go_simp; (try with_reducible rfl)))
    try simp only [Act.put, pu1, pu2, pu3, pu4, pu5, pu6]
    refine wpAnyH_ready (rs := [10]) (by kernel_rfl) (by simp) ?_
    refine AllReadyH.cons rfl (fun K hK => ?_) AllReadyH.nil
    rw [if_pos (by rfl)]
    refine wp_store_row 37 _ _ rfl (W5.heap.size) (sc (.slice ao_s L_s cap_s) M (.slice ao_sp L_sp cap_sp) 0) rfl rfl 37 _ r_s8.out (sizeS _ _ _ _) rfl (oneS _ _ rfl rfl) ?_
    refine hK.out _ _ ⟨(cell_row (by show W2.heap.size ≠ W5.heap.size; omega) hHeld.1), (cell_row (by show W2.heap.size ≠ W5.heap.size; omega) hHeld.2)⟩ (fun hHeld => ?_)
    clear hK K
    try simp only [Act.put, pu1, pu2, pu3, pu4, pu5, pu6]
    have D9a : Below W4.heap.size W4 (W8.setRow (W5.heap.size) (sc (.slice ao_s L_s cap_s) M (.slice ao_sp L_sp cap_sp) 0)) := below_setRow D8.out (by omega) _
    obtain ⟨W9, HW9⟩ : ∃ X, Hid (W8.setRow (W5.heap.size) (sc (.slice ao_s L_s cap_s) M (.slice ao_sp L_sp cap_sp) 0) = X) := ⟨_, rfl⟩
    have z9 : W8.heap.size ≤ W9.heap.size := by rw [← HW9.out]; simp
    have B9 : Hid (Below w.heap.size w W9) := by show Below _ _ _; rw [← HW9.out]; exact below_setRow B8.out (by have := B8.out.size; omega) _
    have r_x9 : Hid (W9.heap[g_x]? = some (.cells #[.slice ao_x L_x cap_x, .int .i64 M.n, .string M.r] 31 (0, 0))) := by show _ = _; rw [← HW9.out]; exact (setRow_other _ _ _ _ (by omega)).trans r_x8.out
    have o_l9 : Hid (Own W9 (w.heap.size) (W1.heap.size) 9 (.slice ao_l L_l cap_l) (ss l)) := by show Own _ _ _ _ _ _; rw [← HW9.out]; exact Own.setRow o_l8.out _ (by omega)
    have o_n9 : Hid (Own W9 (lo_n) (hi_n) 9 (.slice ao_n L_n cap_n) (ss [])) := by show Own _ _ _ _ _ _; rw [← HW9.out]; exact Own.setRow o_n8.out _ (by omega)
    have o_np9 : Hid (Own W9 (lo_np) (hi_np) 5 (.slice ao_np L_np cap_np) (bs [])) := by show Own _ _ _ _ _ _; rw [← HW9.out]; exact Own.setRow o_np8.out _ (by omega)
    have o_s9 : Hid (Own W9 (lo_s) (hi_s) 9 (.slice ao_s L_s cap_s) (ss l)) := by show Own _ _ _ _ _ _; rw [← HW9.out]; exact Own.setRow o_s8.out _ (by omega)
    have o_sp9 : Hid (Own W9 (lo_sp) (hi_sp) 5 (.slice ao_sp L_sp cap_sp) (bs P)) := by show Own _ _ _ _ _ _; rw [← HW9.out]; exact Own.setRow o_sp8.out _ (by omega)
    have r_s9 : Hid (W9.heap[W5.heap.size]? = some (.cells #[.slice ao_s L_s cap_s, .int .i64 M.n, .string M.r, .slice ao_sp L_sp cap_sp, .int .i64 0] 37 (0, 0))) := by show _ = _; rw [← HW9.out]; exact setRow_heap _ _ _ _ _ (0, 0) r_s8.out
    rw [HW9.out]
    clear r_x8 c_x8_0 c_x8_1 c_x8_2 r_s8 c_s8_0 c_s8_1 c_s8_2 c_s8_3 c_s8_4 o_l8 o_n8 o_np8 o_s8 o_sp8
    have c_x9_0 : W9.cell? ⟨g_x, 0, none⟩ = some (.slice ao_x L_x cap_x) := row_at r_x9.out 0
    have c_x9_1 : W9.cell? ⟨g_x, 1, none⟩ = some (.int .i64 M.n) := row_at r_x9.out 1
    have c_x9_2 : W9.cell? ⟨g_x, 2, none⟩ = some (.string M.r) := row_at r_x9.out 2
    have c_s9_0 : W9.cell? ⟨W5.heap.size, 0, none⟩ = some (.slice ao_s L_s cap_s) := row_at r_s9.out 0
    have c_s9_1 : W9.cell? ⟨W5.heap.size, 1, none⟩ = some (.int .i64 M.n) := row_at r_s9.out 1
    have c_s9_2 : W9.cell? ⟨W5.heap.size, 2, none⟩ = some (.string M.r) := row_at r_s9.out 2
    have c_s9_3 : W9.cell? ⟨W5.heap.size, 3, none⟩ = some (.slice ao_sp L_sp cap_sp) := row_at r_s9.out 3
    have c_s9_4 : W9.cell? ⟨W5.heap.size, 4, none⟩ = some (.int .i64 0) := row_at r_s9.out 4
    rw [HW9.out] at hHeld
    have D9 : Hid (Below W4.heap.size W4 W9) := by show Below _ _ _; rw [← HW9.out]; exact D9a
    (refine wpAnyH_take (i := 11) (v := ?v11x62) rfl (by kernel_rfl) (by kernel_rfl) (by kernel_rfl) (fun _ _ _ h => h) (Or.inl ⟨by rfl, ?hy11x62⟩) (by assumption) ?rest11x62; case hy11x62 => (intro w hSw; (try dsimp only at hSw); go_split_ands; go_simp; (try with_reducible rfl)))
    try simp only [Act.put, pu1, pu2, pu3, pu4, pu5, pu6]
    refine wpAnyH_done (by kernel_rfl) ?_ _
    clear hHeld
    go_wp2_with fail
    go_meet
    exact ⟨W5.heap.size, rfl, rfl, by omega, (Array.getElem?_eq_some_iff.1 r_s9.out).1, D9.out, lo_s, hi_s, ao_s, L_s, cap_s, lo_sp, hi_sp, ao_sp, L_sp, cap_sp, by omega, by omega, by omega, by omega, by omega, by omega, by omega, o_s9.out, o_sp9.out, by omega, by omega, r_s9.out⟩
  ·
   go_simp
   refine hK.out _ _ ⟨(keepR (W := W4.drew) hHeld.1 ((Below.refl _ _).alloc (Nat.le_refl _) _)), (keepR (W := W4.drew) hHeld.2 ((Below.refl _ _).alloc (Nat.le_refl _) _))⟩ (fun hHeld => ?_)
   clear hK K
   try simp only [Act.put, pu1, pu2, pu3, pu4, pu5, pu6]
   obtain ⟨W5, HW5, b5, y5, r_s5⟩ : ∃ X, Hid ((W4.alloc (.cells #[.slice none 0 0, .int .i64 0, .string ⟨#[]⟩, .slice none 0 0, .int .i64 0] 37)).drew = X) ∧ Below W4.heap.size W4 X ∧ W4.heap.size + 1 ≤ X.heap.size ∧ Hid (X.heap[W4.heap.size]? = some (.cells #[.slice none 0 0, .int .i64 0, .string ⟨#[]⟩, .slice none 0 0, .int .i64 0] 37 (0, 0))) := ⟨_, rfl, (Below.drew ((Below.refl _ _).alloc (Nat.le_refl _) _)), (by show _ ≤ (W4.heap.push _).size; simp), heap_alloc_new W4 _⟩
   have HHW5 := HW5.out
   rw [HHW5] at hHeld ⊢
   clear HHW5
   have z5 : W4.heap.size ≤ W5.heap.size := b5.size
   have B5 : Hid (Below w.heap.size w W5) := B4.out.trans (b5.mono B4.out.size)
   have r_x5 : Hid (W5.heap[g_x]? = some (.cells #[.slice ao_x L_x cap_x, .int .i64 M.n, .string M.r] 31 (0, 0))) := rowKeep r_x4.out b5
   have o_l5 : Hid (Own W5 (w.heap.size) (W1.heap.size) 9 (.slice ao_l L_l cap_l) (ss l)) := Own.later o_l4.out b5 (by omega)
   have c_x5_0 : W5.cell? ⟨g_x, 0, none⟩ = some (.slice ao_x L_x cap_x) := row_at r_x5.out 0
   have c_x5_1 : W5.cell? ⟨g_x, 1, none⟩ = some (.int .i64 M.n) := row_at r_x5.out 1
   have c_x5_2 : W5.cell? ⟨g_x, 2, none⟩ = some (.string M.r) := row_at r_x5.out 2
   have c_s5_0 : W5.cell? ⟨W4.heap.size, 0, none⟩ = some (.slice none 0 0) := row_at r_s5.out 0
   have c_s5_1 : W5.cell? ⟨W4.heap.size, 1, none⟩ = some (.int .i64 0) := row_at r_s5.out 1
   have c_s5_2 : W5.cell? ⟨W4.heap.size, 2, none⟩ = some (.string ⟨#[]⟩) := row_at r_s5.out 2
   have c_s5_3 : W5.cell? ⟨W4.heap.size, 3, none⟩ = some (.slice none 0 0) := row_at r_s5.out 3
   have c_s5_4 : W5.cell? ⟨W4.heap.size, 4, none⟩ = some (.int .i64 0) := row_at r_s5.out 4
   clear r_x4 c_x4_0 c_x4_1 c_x4_2 o_l4
   have D5 : Hid (Below W4.heap.size W4 W5) := D4.out.trans (b5.mono D4.out.size)
   refine wpAnyH_ready (rs := [0, 2]) (by kernel_rfl) (by simp) ?_
   refine AllReadyH.cons rfl (fun K hK => ?_) (AllReadyH.cons rfl (fun K hK => ?_) AllReadyH.nil)
   ·
    go_simp
    refine (iSNew W5 B5.out).mono ?_
    rintro e W6 ⟨v_n, v_np, rfl, o_n6, o_np6, b6⟩
    refine hK.out _ _ ⟨(keepR (W := W5) hHeld.1 b6), (keepR (W := W5) hHeld.2 b6)⟩ (fun hHeld => ?_)
    clear hK K
    try simp only [Act.put, pu1, pu2, pu3, pu4, pu5, pu6]
    obtain ⟨lo_n, hi_n, lo_np, hi_np, d1_n, d2_n, d3_n, d4_n, d5_n, d6_n, d7_n, oo_n, oo_np⟩ := Sr.pairN o_n6 o_np6 b6.size
    clear o_n6 o_np6
    obtain ⟨ao_n, L_n, cap_n, rfl, _, _⟩ := oo_n.form
    obtain ⟨ao_np, L_np, cap_np, rfl, _, _⟩ := oo_np.form
    have o_n6 : Hid (Own W6 lo_n hi_n 9 (.slice ao_n L_n cap_n) (ss [])) := oo_n
    have o_np6 : Hid (Own W6 lo_np hi_np 5 (.slice ao_np L_np cap_np) (bs [])) := oo_np
    clear oo_n oo_np
    have z6 : W5.heap.size ≤ W6.heap.size := b6.size
    have B6 : Hid (Below w.heap.size w W6) := B5.out.trans (b6.mono B5.out.size)
    have r_x6 : Hid (W6.heap[g_x]? = some (.cells #[.slice ao_x L_x cap_x, .int .i64 M.n, .string M.r] 31 (0, 0))) := rowKeep r_x5.out b6
    have r_s6 : Hid (W6.heap[W4.heap.size]? = some (.cells #[.slice none 0 0, .int .i64 0, .string ⟨#[]⟩, .slice none 0 0, .int .i64 0] 37 (0, 0))) := rowKeep r_s5.out b6
    have o_l6 : Hid (Own W6 (w.heap.size) (W1.heap.size) 9 (.slice ao_l L_l cap_l) (ss l)) := Own.later o_l5.out b6 (by omega)
    have c_x6_0 : W6.cell? ⟨g_x, 0, none⟩ = some (.slice ao_x L_x cap_x) := row_at r_x6.out 0
    have c_x6_1 : W6.cell? ⟨g_x, 1, none⟩ = some (.int .i64 M.n) := row_at r_x6.out 1
    have c_x6_2 : W6.cell? ⟨g_x, 2, none⟩ = some (.string M.r) := row_at r_x6.out 2
    have c_s6_0 : W6.cell? ⟨W4.heap.size, 0, none⟩ = some (.slice none 0 0) := row_at r_s6.out 0
    have c_s6_1 : W6.cell? ⟨W4.heap.size, 1, none⟩ = some (.int .i64 0) := row_at r_s6.out 1
    have c_s6_2 : W6.cell? ⟨W4.heap.size, 2, none⟩ = some (.string ⟨#[]⟩) := row_at r_s6.out 2
    have c_s6_3 : W6.cell? ⟨W4.heap.size, 3, none⟩ = some (.slice none 0 0) := row_at r_s6.out 3
    have c_s6_4 : W6.cell? ⟨W4.heap.size, 4, none⟩ = some (.int .i64 0) := row_at r_s6.out 4
    clear r_x5 c_x5_0 c_x5_1 c_x5_2 r_s5 c_s5_0 c_s5_1 c_s5_2 c_s5_3 c_s5_4 o_l5
    have D6 : Hid (Below W4.heap.size W4 W6) := D5.out.trans (b6.mono D5.out.size)
    refine wpAnyH_ready (rs := [2]) (by kernel_rfl) (by simp) ?_
    refine AllReadyH.cons rfl (fun K hK => ?_) AllReadyH.nil
    go_simp
    refine hK.out _ _ ⟨(keepR (W := W6) hHeld.1 ((Below.refl _ _).alloc (Nat.le_refl _) _)), (keepR (W := W6) hHeld.2 ((Below.refl _ _).alloc (Nat.le_refl _) _))⟩ (fun hHeld => ?_)
    clear hK K
    try simp only [Act.put, pu1, pu2, pu3, pu4, pu5, pu6]
    obtain ⟨W7, HW7, b7, ff7⟩ : ∃ X, Hid ((W6.alloc (.cells #[.int .i64 M.n, .string M.r] 28)) = X) ∧ Below W6.heap.size W6 X ∧ Hid (Sh X (.slice (some ⟨W6.heap.size, 0, none⟩) 1 1) [M]) := ⟨_, rfl, ((Below.refl _ _).alloc (Nat.le_refl _) _), Sh.one W6 M⟩
    have HHW7 := HW7.out
    rw [HHW7] at hHeld ⊢
    clear HHW7
    have z7 : W6.heap.size ≤ W7.heap.size := b7.size
    have B7 : Hid (Below w.heap.size w W7) := B6.out.trans (b7.mono B6.out.size)
    have r_x7 : Hid (W7.heap[g_x]? = some (.cells #[.slice ao_x L_x cap_x, .int .i64 M.n, .string M.r] 31 (0, 0))) := rowKeep r_x6.out b7
    have r_s7 : Hid (W7.heap[W4.heap.size]? = some (.cells #[.slice none 0 0, .int .i64 0, .string ⟨#[]⟩, .slice none 0 0, .int .i64 0] 37 (0, 0))) := rowKeep r_s6.out b7
    have o_l7 : Hid (Own W7 (w.heap.size) (W1.heap.size) 9 (.slice ao_l L_l cap_l) (ss l)) := Own.later o_l6.out b7 (by omega)
    have o_n7 : Hid (Own W7 (lo_n) (hi_n) 9 (.slice ao_n L_n cap_n) (ss [])) := Own.later o_n6.out b7 (by omega)
    have o_np7 : Hid (Own W7 (lo_np) (hi_np) 5 (.slice ao_np L_np cap_np) (bs [])) := Own.later o_np6.out b7 (by omega)
    have c_x7_0 : W7.cell? ⟨g_x, 0, none⟩ = some (.slice ao_x L_x cap_x) := row_at r_x7.out 0
    have c_x7_1 : W7.cell? ⟨g_x, 1, none⟩ = some (.int .i64 M.n) := row_at r_x7.out 1
    have c_x7_2 : W7.cell? ⟨g_x, 2, none⟩ = some (.string M.r) := row_at r_x7.out 2
    have c_s7_0 : W7.cell? ⟨W4.heap.size, 0, none⟩ = some (.slice none 0 0) := row_at r_s7.out 0
    have c_s7_1 : W7.cell? ⟨W4.heap.size, 1, none⟩ = some (.int .i64 0) := row_at r_s7.out 1
    have c_s7_2 : W7.cell? ⟨W4.heap.size, 2, none⟩ = some (.string ⟨#[]⟩) := row_at r_s7.out 2
    have c_s7_3 : W7.cell? ⟨W4.heap.size, 3, none⟩ = some (.slice none 0 0) := row_at r_s7.out 3
    have c_s7_4 : W7.cell? ⟨W4.heap.size, 4, none⟩ = some (.int .i64 0) := row_at r_s7.out 4
    clear r_x6 c_x6_0 c_x6_1 c_x6_2 r_s6 c_s6_0 c_s6_1 c_s6_2 c_s6_3 c_s6_4 o_l6 o_n6 o_np6
    have D7 : Hid (Below W4.heap.size W4 W7) := D6.out.trans (b7.mono D6.out.size)
    have f_t7 : Hid (Sh W7 (.slice (some ⟨W6.heap.size, 0, none⟩) 1 1) [M]) := ff7.out
    clear ff7
    refine wpAnyH_ready (rs := [5]) (by kernel_rfl) (by simp) ?_
    refine AllReadyH.cons rfl (fun K hK => ?_) AllReadyH.nil
    go_simp
    refine (q5 W7 _ _ _ _ B7.out o_n7.out.sl o_np7.out.sl f_t7.out o_l7.out.sl).mono ?_
    rintro e W8 ⟨v_s, v_sp, rfl, o_s8, o_sp8, b8⟩
    refine hK.out _ _ ⟨(keepR (W := W7) hHeld.1 b8), (keepR (W := W7) hHeld.2 b8)⟩ (fun hHeld => ?_)
    clear hK K
    try simp only [Act.put, pu1, pu2, pu3, pu4, pu5, pu6]
    obtain ⟨lo_s, hi_s, lo_sp, hi_sp, d1_s, d2_s, d3_s, d4_s, d5_s, d6_s, d7_s, oo_s, oo_sp⟩ := Sr.pairN o_s8 o_sp8 b8.size
    clear o_s8 o_sp8
    obtain ⟨ao_s, L_s, cap_s, rfl, _, _⟩ := oo_s.form
    obtain ⟨ao_sp, L_sp, cap_sp, rfl, _, _⟩ := oo_sp.form
    have o_s8 : Hid (Own W8 lo_s hi_s 9 (.slice ao_s L_s cap_s) (ss l)) := oo_s
    have o_sp8 : Hid (Own W8 lo_sp hi_sp 5 (.slice ao_sp L_sp cap_sp) (bs P)) := oo_sp
    clear oo_s oo_sp
    have z8 : W7.heap.size ≤ W8.heap.size := b8.size
    have B8 : Hid (Below w.heap.size w W8) := B7.out.trans (b8.mono B7.out.size)
    have r_x8 : Hid (W8.heap[g_x]? = some (.cells #[.slice ao_x L_x cap_x, .int .i64 M.n, .string M.r] 31 (0, 0))) := rowKeep r_x7.out b8
    have r_s8 : Hid (W8.heap[W4.heap.size]? = some (.cells #[.slice none 0 0, .int .i64 0, .string ⟨#[]⟩, .slice none 0 0, .int .i64 0] 37 (0, 0))) := rowKeep r_s7.out b8
    have o_l8 : Hid (Own W8 (w.heap.size) (W1.heap.size) 9 (.slice ao_l L_l cap_l) (ss l)) := Own.later o_l7.out b8 (by omega)
    have o_n8 : Hid (Own W8 (lo_n) (hi_n) 9 (.slice ao_n L_n cap_n) (ss [])) := Own.later o_n7.out b8 (by omega)
    have o_np8 : Hid (Own W8 (lo_np) (hi_np) 5 (.slice ao_np L_np cap_np) (bs [])) := Own.later o_np7.out b8 (by omega)
    have c_x8_0 : W8.cell? ⟨g_x, 0, none⟩ = some (.slice ao_x L_x cap_x) := row_at r_x8.out 0
    have c_x8_1 : W8.cell? ⟨g_x, 1, none⟩ = some (.int .i64 M.n) := row_at r_x8.out 1
    have c_x8_2 : W8.cell? ⟨g_x, 2, none⟩ = some (.string M.r) := row_at r_x8.out 2
    have c_s8_0 : W8.cell? ⟨W4.heap.size, 0, none⟩ = some (.slice none 0 0) := row_at r_s8.out 0
    have c_s8_1 : W8.cell? ⟨W4.heap.size, 1, none⟩ = some (.int .i64 0) := row_at r_s8.out 1
    have c_s8_2 : W8.cell? ⟨W4.heap.size, 2, none⟩ = some (.string ⟨#[]⟩) := row_at r_s8.out 2
    have c_s8_3 : W8.cell? ⟨W4.heap.size, 3, none⟩ = some (.slice none 0 0) := row_at r_s8.out 3
    have c_s8_4 : W8.cell? ⟨W4.heap.size, 4, none⟩ = some (.int .i64 0) := row_at r_s8.out 4
    clear r_x7 c_x7_0 c_x7_1 c_x7_2 r_s7 c_s7_0 c_s7_1 c_s7_2 c_s7_3 c_s7_4 o_l7 o_n7 o_np7
    have f_t8 : Hid (Sh W8 (.slice (some ⟨W6.heap.size, 0, none⟩) 1 1) [M]) := Sh.later f_t7.out b8
    clear f_t7
    have D8 : Hid (Below W4.heap.size W4 W8) := D7.out.trans (b8.mono D7.out.size)
    (refine wpAnyH_take (i := 6) (v := ?v6x63) rfl (by kernel_rfl) (by kernel_rfl) (by kernel_rfl) (fun _ _ _ h => h) (Or.inl ⟨by rfl, ?hy6x63⟩) (by assumption) ?rest6x63; case hy6x63 => (intro w hSw; (try dsimp only at hSw); go_split_ands; go_simp; (try with_reducible rfl)))
    try simp only [Act.put, pu1, pu2, pu3, pu4, pu5, pu6]
    (refine wpAnyH_take (i := 7) (v := ?v7x64) rfl (by kernel_rfl) (by kernel_rfl) (by kernel_rfl) (fun _ _ _ h => h) (Or.inl ⟨by rfl, ?hy7x64⟩) (by assumption) ?rest7x64; case hy7x64 => (intro w hSw; (try dsimp only at hSw); go_split_ands; go_simp; (try with_reducible rfl)))
    try simp only [Act.put, pu1, pu2, pu3, pu4, pu5, pu6]
    (refine wpAnyH_take (i := 8) (v := ?v8x65) rfl (by kernel_rfl) (by kernel_rfl) (by kernel_rfl) (fun _ _ _ h => h) (Or.inl ⟨by rfl, ?hy8x65⟩) (by assumption) ?rest8x65; case hy8x65 => (intro w hSw; (try dsimp only at hSw); go_split_ands; go_simp; (try with_reducible rfl)))
    try simp only [Act.put, pu1, pu2, pu3, pu4, pu5, pu6]
    refine wpAnyH_ready (rs := [10]) (by kernel_rfl) (by simp) ?_
    refine AllReadyH.cons rfl (fun K hK => ?_) AllReadyH.nil
    rw [if_pos (by rfl)]
    refine wp_store_row 37 _ _ rfl (W4.heap.size) (sc (.slice ao_s L_s cap_s) M (.slice ao_sp L_sp cap_sp) 0) rfl rfl 37 _ r_s8.out (sizeS _ _ _ _) rfl (oneS _ _ rfl rfl) ?_
    refine hK.out _ _ ⟨(cell_row (by show W2.heap.size ≠ W4.heap.size; omega) hHeld.1), (cell_row (by show W2.heap.size ≠ W4.heap.size; omega) hHeld.2)⟩ (fun hHeld => ?_)
    clear hK K
    try simp only [Act.put, pu1, pu2, pu3, pu4, pu5, pu6]
    have D9a : Below W4.heap.size W4 (W8.setRow (W4.heap.size) (sc (.slice ao_s L_s cap_s) M (.slice ao_sp L_sp cap_sp) 0)) := below_setRow D8.out (by omega) _
    obtain ⟨W9, HW9⟩ : ∃ X, Hid (W8.setRow (W4.heap.size) (sc (.slice ao_s L_s cap_s) M (.slice ao_sp L_sp cap_sp) 0) = X) := ⟨_, rfl⟩
    have z9 : W8.heap.size ≤ W9.heap.size := by rw [← HW9.out]; simp
    have B9 : Hid (Below w.heap.size w W9) := by show Below _ _ _; rw [← HW9.out]; exact below_setRow B8.out (by have := B8.out.size; omega) _
    have r_x9 : Hid (W9.heap[g_x]? = some (.cells #[.slice ao_x L_x cap_x, .int .i64 M.n, .string M.r] 31 (0, 0))) := by show _ = _; rw [← HW9.out]; exact (setRow_other _ _ _ _ (by omega)).trans r_x8.out
    have o_l9 : Hid (Own W9 (w.heap.size) (W1.heap.size) 9 (.slice ao_l L_l cap_l) (ss l)) := by show Own _ _ _ _ _ _; rw [← HW9.out]; exact Own.setRow o_l8.out _ (by omega)
    have o_n9 : Hid (Own W9 (lo_n) (hi_n) 9 (.slice ao_n L_n cap_n) (ss [])) := by show Own _ _ _ _ _ _; rw [← HW9.out]; exact Own.setRow o_n8.out _ (by omega)
    have o_np9 : Hid (Own W9 (lo_np) (hi_np) 5 (.slice ao_np L_np cap_np) (bs [])) := by show Own _ _ _ _ _ _; rw [← HW9.out]; exact Own.setRow o_np8.out _ (by omega)
    have o_s9 : Hid (Own W9 (lo_s) (hi_s) 9 (.slice ao_s L_s cap_s) (ss l)) := by show Own _ _ _ _ _ _; rw [← HW9.out]; exact Own.setRow o_s8.out _ (by omega)
    have o_sp9 : Hid (Own W9 (lo_sp) (hi_sp) 5 (.slice ao_sp L_sp cap_sp) (bs P)) := by show Own _ _ _ _ _ _; rw [← HW9.out]; exact Own.setRow o_sp8.out _ (by omega)
    have r_s9 : Hid (W9.heap[W4.heap.size]? = some (.cells #[.slice ao_s L_s cap_s, .int .i64 M.n, .string M.r, .slice ao_sp L_sp cap_sp, .int .i64 0] 37 (0, 0))) := by show _ = _; rw [← HW9.out]; exact setRow_heap _ _ _ _ _ (0, 0) r_s8.out
    rw [HW9.out]
    clear r_x8 c_x8_0 c_x8_1 c_x8_2 r_s8 c_s8_0 c_s8_1 c_s8_2 c_s8_3 c_s8_4 o_l8 o_n8 o_np8 o_s8 o_sp8
    have c_x9_0 : W9.cell? ⟨g_x, 0, none⟩ = some (.slice ao_x L_x cap_x) := row_at r_x9.out 0
    have c_x9_1 : W9.cell? ⟨g_x, 1, none⟩ = some (.int .i64 M.n) := row_at r_x9.out 1
    have c_x9_2 : W9.cell? ⟨g_x, 2, none⟩ = some (.string M.r) := row_at r_x9.out 2
    have c_s9_0 : W9.cell? ⟨W4.heap.size, 0, none⟩ = some (.slice ao_s L_s cap_s) := row_at r_s9.out 0
    have c_s9_1 : W9.cell? ⟨W4.heap.size, 1, none⟩ = some (.int .i64 M.n) := row_at r_s9.out 1
    have c_s9_2 : W9.cell? ⟨W4.heap.size, 2, none⟩ = some (.string M.r) := row_at r_s9.out 2
    have c_s9_3 : W9.cell? ⟨W4.heap.size, 3, none⟩ = some (.slice ao_sp L_sp cap_sp) := row_at r_s9.out 3
    have c_s9_4 : W9.cell? ⟨W4.heap.size, 4, none⟩ = some (.int .i64 0) := row_at r_s9.out 4
    rw [HW9.out] at hHeld
    have D9 : Hid (Below W4.heap.size W4 W9) := by show Below _ _ _; rw [← HW9.out]; exact D9a
    (refine wpAnyH_take (i := 11) (v := ?v11x66) rfl (by kernel_rfl) (by kernel_rfl) (by kernel_rfl) (fun _ _ _ h => h) (Or.inl ⟨by rfl, ?hy11x66⟩) (by assumption) ?rest11x66; case hy11x66 => (intro w hSw; (try dsimp only at hSw); go_split_ands; go_simp; (try with_reducible rfl)))
    try simp only [Act.put, pu1, pu2, pu3, pu4, pu5, pu6]
    refine wpAnyH_done (by kernel_rfl) ?_ _
    clear hHeld
    go_wp2_with fail
    go_meet
    exact ⟨W4.heap.size, rfl, rfl, by omega, (Array.getElem?_eq_some_iff.1 r_s9.out).1, D9.out, lo_s, hi_s, ao_s, L_s, cap_s, lo_sp, hi_sp, ao_sp, L_sp, cap_sp, by omega, by omega, by omega, by omega, by omega, by omega, by omega, o_s9.out, o_sp9.out, by omega, by omega, r_s9.out⟩
   ·
    go_simp
    refine hK.out _ _ ⟨(keepR (W := W5) hHeld.1 ((Below.refl _ _).alloc (Nat.le_refl _) _)), (keepR (W := W5) hHeld.2 ((Below.refl _ _).alloc (Nat.le_refl _) _))⟩ (fun hHeld => ?_)
    clear hK K
    try simp only [Act.put, pu1, pu2, pu3, pu4, pu5, pu6]
    obtain ⟨W6, HW6, b6, ff6⟩ : ∃ X, Hid ((W5.alloc (.cells #[.int .i64 M.n, .string M.r] 28)) = X) ∧ Below W5.heap.size W5 X ∧ Hid (Sh X (.slice (some ⟨W5.heap.size, 0, none⟩) 1 1) [M]) := ⟨_, rfl, ((Below.refl _ _).alloc (Nat.le_refl _) _), Sh.one W5 M⟩
    have HHW6 := HW6.out
    rw [HHW6] at hHeld ⊢
    clear HHW6
    have z6 : W5.heap.size ≤ W6.heap.size := b6.size
    have B6 : Hid (Below w.heap.size w W6) := B5.out.trans (b6.mono B5.out.size)
    have r_x6 : Hid (W6.heap[g_x]? = some (.cells #[.slice ao_x L_x cap_x, .int .i64 M.n, .string M.r] 31 (0, 0))) := rowKeep r_x5.out b6
    have r_s6 : Hid (W6.heap[W4.heap.size]? = some (.cells #[.slice none 0 0, .int .i64 0, .string ⟨#[]⟩, .slice none 0 0, .int .i64 0] 37 (0, 0))) := rowKeep r_s5.out b6
    have o_l6 : Hid (Own W6 (w.heap.size) (W1.heap.size) 9 (.slice ao_l L_l cap_l) (ss l)) := Own.later o_l5.out b6 (by omega)
    have c_x6_0 : W6.cell? ⟨g_x, 0, none⟩ = some (.slice ao_x L_x cap_x) := row_at r_x6.out 0
    have c_x6_1 : W6.cell? ⟨g_x, 1, none⟩ = some (.int .i64 M.n) := row_at r_x6.out 1
    have c_x6_2 : W6.cell? ⟨g_x, 2, none⟩ = some (.string M.r) := row_at r_x6.out 2
    have c_s6_0 : W6.cell? ⟨W4.heap.size, 0, none⟩ = some (.slice none 0 0) := row_at r_s6.out 0
    have c_s6_1 : W6.cell? ⟨W4.heap.size, 1, none⟩ = some (.int .i64 0) := row_at r_s6.out 1
    have c_s6_2 : W6.cell? ⟨W4.heap.size, 2, none⟩ = some (.string ⟨#[]⟩) := row_at r_s6.out 2
    have c_s6_3 : W6.cell? ⟨W4.heap.size, 3, none⟩ = some (.slice none 0 0) := row_at r_s6.out 3
    have c_s6_4 : W6.cell? ⟨W4.heap.size, 4, none⟩ = some (.int .i64 0) := row_at r_s6.out 4
    clear r_x5 c_x5_0 c_x5_1 c_x5_2 r_s5 c_s5_0 c_s5_1 c_s5_2 c_s5_3 c_s5_4 o_l5
    have D6 : Hid (Below W4.heap.size W4 W6) := D5.out.trans (b6.mono D5.out.size)
    have f_t6 : Hid (Sh W6 (.slice (some ⟨W5.heap.size, 0, none⟩) 1 1) [M]) := ff6.out
    clear ff6
    refine wpAnyH_ready (rs := [0]) (by kernel_rfl) (by simp) ?_
    refine AllReadyH.cons rfl (fun K hK => ?_) AllReadyH.nil
    go_simp
    refine (iSNew W6 B6.out).mono ?_
    rintro e W7 ⟨v_n, v_np, rfl, o_n7, o_np7, b7⟩
    refine hK.out _ _ ⟨(keepR (W := W6) hHeld.1 b7), (keepR (W := W6) hHeld.2 b7)⟩ (fun hHeld => ?_)
    clear hK K
    try simp only [Act.put, pu1, pu2, pu3, pu4, pu5, pu6]
    obtain ⟨lo_n, hi_n, lo_np, hi_np, d1_n, d2_n, d3_n, d4_n, d5_n, d6_n, d7_n, oo_n, oo_np⟩ := Sr.pairN o_n7 o_np7 b7.size
    clear o_n7 o_np7
    obtain ⟨ao_n, L_n, cap_n, rfl, _, _⟩ := oo_n.form
    obtain ⟨ao_np, L_np, cap_np, rfl, _, _⟩ := oo_np.form
    have o_n7 : Hid (Own W7 lo_n hi_n 9 (.slice ao_n L_n cap_n) (ss [])) := oo_n
    have o_np7 : Hid (Own W7 lo_np hi_np 5 (.slice ao_np L_np cap_np) (bs [])) := oo_np
    clear oo_n oo_np
    have z7 : W6.heap.size ≤ W7.heap.size := b7.size
    have B7 : Hid (Below w.heap.size w W7) := B6.out.trans (b7.mono B6.out.size)
    have r_x7 : Hid (W7.heap[g_x]? = some (.cells #[.slice ao_x L_x cap_x, .int .i64 M.n, .string M.r] 31 (0, 0))) := rowKeep r_x6.out b7
    have r_s7 : Hid (W7.heap[W4.heap.size]? = some (.cells #[.slice none 0 0, .int .i64 0, .string ⟨#[]⟩, .slice none 0 0, .int .i64 0] 37 (0, 0))) := rowKeep r_s6.out b7
    have o_l7 : Hid (Own W7 (w.heap.size) (W1.heap.size) 9 (.slice ao_l L_l cap_l) (ss l)) := Own.later o_l6.out b7 (by omega)
    have c_x7_0 : W7.cell? ⟨g_x, 0, none⟩ = some (.slice ao_x L_x cap_x) := row_at r_x7.out 0
    have c_x7_1 : W7.cell? ⟨g_x, 1, none⟩ = some (.int .i64 M.n) := row_at r_x7.out 1
    have c_x7_2 : W7.cell? ⟨g_x, 2, none⟩ = some (.string M.r) := row_at r_x7.out 2
    have c_s7_0 : W7.cell? ⟨W4.heap.size, 0, none⟩ = some (.slice none 0 0) := row_at r_s7.out 0
    have c_s7_1 : W7.cell? ⟨W4.heap.size, 1, none⟩ = some (.int .i64 0) := row_at r_s7.out 1
    have c_s7_2 : W7.cell? ⟨W4.heap.size, 2, none⟩ = some (.string ⟨#[]⟩) := row_at r_s7.out 2
    have c_s7_3 : W7.cell? ⟨W4.heap.size, 3, none⟩ = some (.slice none 0 0) := row_at r_s7.out 3
    have c_s7_4 : W7.cell? ⟨W4.heap.size, 4, none⟩ = some (.int .i64 0) := row_at r_s7.out 4
    clear r_x6 c_x6_0 c_x6_1 c_x6_2 r_s6 c_s6_0 c_s6_1 c_s6_2 c_s6_3 c_s6_4 o_l6
    have f_t7 : Hid (Sh W7 (.slice (some ⟨W5.heap.size, 0, none⟩) 1 1) [M]) := Sh.later f_t6.out b7
    clear f_t6
    have D7 : Hid (Below W4.heap.size W4 W7) := D6.out.trans (b7.mono D6.out.size)
    refine wpAnyH_ready (rs := [5]) (by kernel_rfl) (by simp) ?_
    refine AllReadyH.cons rfl (fun K hK => ?_) AllReadyH.nil
    go_simp
    refine (q5 W7 _ _ _ _ B7.out o_n7.out.sl o_np7.out.sl f_t7.out o_l7.out.sl).mono ?_
    rintro e W8 ⟨v_s, v_sp, rfl, o_s8, o_sp8, b8⟩
    refine hK.out _ _ ⟨(keepR (W := W7) hHeld.1 b8), (keepR (W := W7) hHeld.2 b8)⟩ (fun hHeld => ?_)
    clear hK K
    try simp only [Act.put, pu1, pu2, pu3, pu4, pu5, pu6]
    obtain ⟨lo_s, hi_s, lo_sp, hi_sp, d1_s, d2_s, d3_s, d4_s, d5_s, d6_s, d7_s, oo_s, oo_sp⟩ := Sr.pairN o_s8 o_sp8 b8.size
    clear o_s8 o_sp8
    obtain ⟨ao_s, L_s, cap_s, rfl, _, _⟩ := oo_s.form
    obtain ⟨ao_sp, L_sp, cap_sp, rfl, _, _⟩ := oo_sp.form
    have o_s8 : Hid (Own W8 lo_s hi_s 9 (.slice ao_s L_s cap_s) (ss l)) := oo_s
    have o_sp8 : Hid (Own W8 lo_sp hi_sp 5 (.slice ao_sp L_sp cap_sp) (bs P)) := oo_sp
    clear oo_s oo_sp
    have z8 : W7.heap.size ≤ W8.heap.size := b8.size
    have B8 : Hid (Below w.heap.size w W8) := B7.out.trans (b8.mono B7.out.size)
    have r_x8 : Hid (W8.heap[g_x]? = some (.cells #[.slice ao_x L_x cap_x, .int .i64 M.n, .string M.r] 31 (0, 0))) := rowKeep r_x7.out b8
    have r_s8 : Hid (W8.heap[W4.heap.size]? = some (.cells #[.slice none 0 0, .int .i64 0, .string ⟨#[]⟩, .slice none 0 0, .int .i64 0] 37 (0, 0))) := rowKeep r_s7.out b8
    have o_l8 : Hid (Own W8 (w.heap.size) (W1.heap.size) 9 (.slice ao_l L_l cap_l) (ss l)) := Own.later o_l7.out b8 (by omega)
    have o_n8 : Hid (Own W8 (lo_n) (hi_n) 9 (.slice ao_n L_n cap_n) (ss [])) := Own.later o_n7.out b8 (by omega)
    have o_np8 : Hid (Own W8 (lo_np) (hi_np) 5 (.slice ao_np L_np cap_np) (bs [])) := Own.later o_np7.out b8 (by omega)
    have c_x8_0 : W8.cell? ⟨g_x, 0, none⟩ = some (.slice ao_x L_x cap_x) := row_at r_x8.out 0
    have c_x8_1 : W8.cell? ⟨g_x, 1, none⟩ = some (.int .i64 M.n) := row_at r_x8.out 1
    have c_x8_2 : W8.cell? ⟨g_x, 2, none⟩ = some (.string M.r) := row_at r_x8.out 2
    have c_s8_0 : W8.cell? ⟨W4.heap.size, 0, none⟩ = some (.slice none 0 0) := row_at r_s8.out 0
    have c_s8_1 : W8.cell? ⟨W4.heap.size, 1, none⟩ = some (.int .i64 0) := row_at r_s8.out 1
    have c_s8_2 : W8.cell? ⟨W4.heap.size, 2, none⟩ = some (.string ⟨#[]⟩) := row_at r_s8.out 2
    have c_s8_3 : W8.cell? ⟨W4.heap.size, 3, none⟩ = some (.slice none 0 0) := row_at r_s8.out 3
    have c_s8_4 : W8.cell? ⟨W4.heap.size, 4, none⟩ = some (.int .i64 0) := row_at r_s8.out 4
    clear r_x7 c_x7_0 c_x7_1 c_x7_2 r_s7 c_s7_0 c_s7_1 c_s7_2 c_s7_3 c_s7_4 o_l7 o_n7 o_np7
    have f_t8 : Hid (Sh W8 (.slice (some ⟨W5.heap.size, 0, none⟩) 1 1) [M]) := Sh.later f_t7.out b8
    clear f_t7
    have D8 : Hid (Below W4.heap.size W4 W8) := D7.out.trans (b8.mono D7.out.size)
    (refine wpAnyH_take (i := 6) (v := ?v6x67) rfl (by kernel_rfl) (by kernel_rfl) (by kernel_rfl) (fun _ _ _ h => h) (Or.inl ⟨by rfl, ?hy6x67⟩) (by assumption) ?rest6x67; case hy6x67 => (intro w hSw; (try dsimp only at hSw); go_split_ands; go_simp; (try with_reducible rfl)))
    try simp only [Act.put, pu1, pu2, pu3, pu4, pu5, pu6]
    (refine wpAnyH_take (i := 7) (v := ?v7x68) rfl (by kernel_rfl) (by kernel_rfl) (by kernel_rfl) (fun _ _ _ h => h) (Or.inl ⟨by rfl, ?hy7x68⟩) (by assumption) ?rest7x68; case hy7x68 => (intro w hSw; (try dsimp only at hSw); go_split_ands; go_simp; (try with_reducible rfl)))
    try simp only [Act.put, pu1, pu2, pu3, pu4, pu5, pu6]
    (refine wpAnyH_take (i := 8) (v := ?v8x69) rfl (by kernel_rfl) (by kernel_rfl) (by kernel_rfl) (fun _ _ _ h => h) (Or.inl ⟨by rfl, ?hy8x69⟩) (by assumption) ?rest8x69; case hy8x69 => (intro w hSw; (try dsimp only at hSw); go_split_ands; go_simp; (try with_reducible rfl)))
    try simp only [Act.put, pu1, pu2, pu3, pu4, pu5, pu6]
    refine wpAnyH_ready (rs := [10]) (by kernel_rfl) (by simp) ?_
    refine AllReadyH.cons rfl (fun K hK => ?_) AllReadyH.nil
    rw [if_pos (by rfl)]
    refine wp_store_row 37 _ _ rfl (W4.heap.size) (sc (.slice ao_s L_s cap_s) M (.slice ao_sp L_sp cap_sp) 0) rfl rfl 37 _ r_s8.out (sizeS _ _ _ _) rfl (oneS _ _ rfl rfl) ?_
    refine hK.out _ _ ⟨(cell_row (by show W2.heap.size ≠ W4.heap.size; omega) hHeld.1), (cell_row (by show W2.heap.size ≠ W4.heap.size; omega) hHeld.2)⟩ (fun hHeld => ?_)
    clear hK K
    try simp only [Act.put, pu1, pu2, pu3, pu4, pu5, pu6]
    have D9a : Below W4.heap.size W4 (W8.setRow (W4.heap.size) (sc (.slice ao_s L_s cap_s) M (.slice ao_sp L_sp cap_sp) 0)) := below_setRow D8.out (by omega) _
    obtain ⟨W9, HW9⟩ : ∃ X, Hid (W8.setRow (W4.heap.size) (sc (.slice ao_s L_s cap_s) M (.slice ao_sp L_sp cap_sp) 0) = X) := ⟨_, rfl⟩
    have z9 : W8.heap.size ≤ W9.heap.size := by rw [← HW9.out]; simp
    have B9 : Hid (Below w.heap.size w W9) := by show Below _ _ _; rw [← HW9.out]; exact below_setRow B8.out (by have := B8.out.size; omega) _
    have r_x9 : Hid (W9.heap[g_x]? = some (.cells #[.slice ao_x L_x cap_x, .int .i64 M.n, .string M.r] 31 (0, 0))) := by show _ = _; rw [← HW9.out]; exact (setRow_other _ _ _ _ (by omega)).trans r_x8.out
    have o_l9 : Hid (Own W9 (w.heap.size) (W1.heap.size) 9 (.slice ao_l L_l cap_l) (ss l)) := by show Own _ _ _ _ _ _; rw [← HW9.out]; exact Own.setRow o_l8.out _ (by omega)
    have o_n9 : Hid (Own W9 (lo_n) (hi_n) 9 (.slice ao_n L_n cap_n) (ss [])) := by show Own _ _ _ _ _ _; rw [← HW9.out]; exact Own.setRow o_n8.out _ (by omega)
    have o_np9 : Hid (Own W9 (lo_np) (hi_np) 5 (.slice ao_np L_np cap_np) (bs [])) := by show Own _ _ _ _ _ _; rw [← HW9.out]; exact Own.setRow o_np8.out _ (by omega)
    have o_s9 : Hid (Own W9 (lo_s) (hi_s) 9 (.slice ao_s L_s cap_s) (ss l)) := by show Own _ _ _ _ _ _; rw [← HW9.out]; exact Own.setRow o_s8.out _ (by omega)
    have o_sp9 : Hid (Own W9 (lo_sp) (hi_sp) 5 (.slice ao_sp L_sp cap_sp) (bs P)) := by show Own _ _ _ _ _ _; rw [← HW9.out]; exact Own.setRow o_sp8.out _ (by omega)
    have r_s9 : Hid (W9.heap[W4.heap.size]? = some (.cells #[.slice ao_s L_s cap_s, .int .i64 M.n, .string M.r, .slice ao_sp L_sp cap_sp, .int .i64 0] 37 (0, 0))) := by show _ = _; rw [← HW9.out]; exact setRow_heap _ _ _ _ _ (0, 0) r_s8.out
    rw [HW9.out]
    clear r_x8 c_x8_0 c_x8_1 c_x8_2 r_s8 c_s8_0 c_s8_1 c_s8_2 c_s8_3 c_s8_4 o_l8 o_n8 o_np8 o_s8 o_sp8
    have c_x9_0 : W9.cell? ⟨g_x, 0, none⟩ = some (.slice ao_x L_x cap_x) := row_at r_x9.out 0
    have c_x9_1 : W9.cell? ⟨g_x, 1, none⟩ = some (.int .i64 M.n) := row_at r_x9.out 1
    have c_x9_2 : W9.cell? ⟨g_x, 2, none⟩ = some (.string M.r) := row_at r_x9.out 2
    have c_s9_0 : W9.cell? ⟨W4.heap.size, 0, none⟩ = some (.slice ao_s L_s cap_s) := row_at r_s9.out 0
    have c_s9_1 : W9.cell? ⟨W4.heap.size, 1, none⟩ = some (.int .i64 M.n) := row_at r_s9.out 1
    have c_s9_2 : W9.cell? ⟨W4.heap.size, 2, none⟩ = some (.string M.r) := row_at r_s9.out 2
    have c_s9_3 : W9.cell? ⟨W4.heap.size, 3, none⟩ = some (.slice ao_sp L_sp cap_sp) := row_at r_s9.out 3
    have c_s9_4 : W9.cell? ⟨W4.heap.size, 4, none⟩ = some (.int .i64 0) := row_at r_s9.out 4
    rw [HW9.out] at hHeld
    have D9 : Hid (Below W4.heap.size W4 W9) := by show Below _ _ _; rw [← HW9.out]; exact D9a
    (refine wpAnyH_take (i := 11) (v := ?v11x70) rfl (by kernel_rfl) (by kernel_rfl) (by kernel_rfl) (fun _ _ _ h => h) (Or.inl ⟨by rfl, ?hy11x70⟩) (by assumption) ?rest11x70; case hy11x70 => (intro w hSw; (try dsimp only at hSw); go_split_ands; go_simp; (try with_reducible rfl)))
    try simp only [Act.put, pu1, pu2, pu3, pu4, pu5, pu6]
    refine wpAnyH_done (by kernel_rfl) ?_ _
    clear hHeld
    go_wp2_with fail
    go_meet
    exact ⟨W4.heap.size, rfl, rfl, by omega, (Array.getElem?_eq_some_iff.1 r_s9.out).1, D9.out, lo_s, hi_s, ao_s, L_s, cap_s, lo_sp, hi_sp, ao_sp, L_sp, cap_sp, by omega, by omega, by omega, by omega, by omega, by omega, by omega, o_s9.out, o_sp9.out, by omega, by omega, r_s9.out⟩
 case rest =>
 obtain ⟨g_s, rfl, rfl, hg_s, hg2_s, b5, lo_s, hi_s, ao_s, L_s, cap_s, lo_sp, hi_sp, ao_sp, L_sp, cap_sp, d1_s, d2_s, d3_s, d1_sp, d2_sp, d3_sp, d_s_sp, oo_s, oo_sp, hgf_s, hgf_sp, r_s5⟩ := hcut
 revert hg2_s b5 d3_s d3_sp oo_s oo_sp r_s5
 generalize wc = W5
 intro hg2_s b5 d3_s d3_sp oo_s oo_sp r_s5
 have r_s5 : Hid (W5.heap[g_s]? = some (.cells #[.slice ao_s L_s cap_s, .int .i64 M.n, .string M.r, .slice ao_sp L_sp cap_sp, .int .i64 0] 37 (0, 0))) := r_s5
 have o_s5 : Hid (Own W5 lo_s hi_s 9 (.slice ao_s L_s cap_s) (ss l)) := oo_s
 clear oo_s
 have o_sp5 : Hid (Own W5 lo_sp hi_sp 5 (.slice ao_sp L_sp cap_sp) (bs P)) := oo_sp
 clear oo_sp
 have z5 : W4.heap.size ≤ W5.heap.size := b5.size
 have B5 : Hid (Below w.heap.size w W5) := B4.out.trans (b5.mono B4.out.size)
 have r_h5 : Hid (W5.heap[W2.heap.size]? = some (.cells #[.int .i64 M.n, .string M.r] 28 (0, 0))) := rowKeep r_h4.out b5
 have r_x5 : Hid (W5.heap[g_x]? = some (.cells #[.slice ao_x L_x cap_x, .int .i64 M.n, .string M.r] 31 (0, 0))) := rowKeep r_x4.out b5
 have o_l5 : Hid (Own W5 (w.heap.size) (W1.heap.size) 9 (.slice ao_l L_l cap_l) (ss l)) := Own.later o_l4.out b5 (by omega)
 have o_x5 : Hid (Own W5 (lo_x) (hi_x) 9 (.slice ao_x L_x cap_x) (ss l)) := Own.later o_x4.out b5 (by omega)
 have c_h5_0 : W5.cell? ⟨W2.heap.size, 0, none⟩ = some (.int .i64 M.n) := row_at r_h5.out 0
 have c_h5_1 : W5.cell? ⟨W2.heap.size, 1, none⟩ = some (.string M.r) := row_at r_h5.out 1
 have c_x5_0 : W5.cell? ⟨g_x, 0, none⟩ = some (.slice ao_x L_x cap_x) := row_at r_x5.out 0
 have c_x5_1 : W5.cell? ⟨g_x, 1, none⟩ = some (.int .i64 M.n) := row_at r_x5.out 1
 have c_x5_2 : W5.cell? ⟨g_x, 2, none⟩ = some (.string M.r) := row_at r_x5.out 2
 have c_s5_0 : W5.cell? ⟨g_s, 0, none⟩ = some (.slice ao_s L_s cap_s) := row_at r_s5.out 0
 have c_s5_1 : W5.cell? ⟨g_s, 1, none⟩ = some (.int .i64 M.n) := row_at r_s5.out 1
 have c_s5_2 : W5.cell? ⟨g_s, 2, none⟩ = some (.string M.r) := row_at r_s5.out 2
 have c_s5_3 : W5.cell? ⟨g_s, 3, none⟩ = some (.slice ao_sp L_sp cap_sp) := row_at r_s5.out 3
 have c_s5_4 : W5.cell? ⟨g_s, 4, none⟩ = some (.int .i64 0) := row_at r_s5.out 4
 clear r_h4 c_h4_0 c_h4_1 r_x4 c_x4_0 c_x4_1 c_x4_2 o_l4 o_x4
 go_wp2_with fail
 refine (iNew W5 B5.out).mono ?_
 rintro e W6 ⟨v_a, rfl, o_a6, b6⟩
 obtain ⟨ao_a, L_a, cap_a, rfl, hL_a, hM_a⟩ := o_a6.form
 have o_a6 : Hid (Own W6 W5.heap.size W6.heap.size 9 (.slice ao_a L_a cap_a) (ss [])) := o_a6
 clear hL_a hM_a
 have z6 : W5.heap.size ≤ W6.heap.size := b6.size
 have B6 : Hid (Below w.heap.size w W6) := B5.out.trans (b6.mono B5.out.size)
 have r_h6 : Hid (W6.heap[W2.heap.size]? = some (.cells #[.int .i64 M.n, .string M.r] 28 (0, 0))) := rowKeep r_h5.out b6
 have r_x6 : Hid (W6.heap[g_x]? = some (.cells #[.slice ao_x L_x cap_x, .int .i64 M.n, .string M.r] 31 (0, 0))) := rowKeep r_x5.out b6
 have r_s6 : Hid (W6.heap[g_s]? = some (.cells #[.slice ao_s L_s cap_s, .int .i64 M.n, .string M.r, .slice ao_sp L_sp cap_sp, .int .i64 0] 37 (0, 0))) := rowKeep r_s5.out b6
 have o_l6 : Hid (Own W6 (w.heap.size) (W1.heap.size) 9 (.slice ao_l L_l cap_l) (ss l)) := Own.later o_l5.out b6 (by omega)
 have o_x6 : Hid (Own W6 (lo_x) (hi_x) 9 (.slice ao_x L_x cap_x) (ss l)) := Own.later o_x5.out b6 (by omega)
 have o_s6 : Hid (Own W6 (lo_s) (hi_s) 9 (.slice ao_s L_s cap_s) (ss l)) := Own.later o_s5.out b6 (by omega)
 have o_sp6 : Hid (Own W6 (lo_sp) (hi_sp) 5 (.slice ao_sp L_sp cap_sp) (bs P)) := Own.later o_sp5.out b6 (by omega)
 have c_h6_0 : W6.cell? ⟨W2.heap.size, 0, none⟩ = some (.int .i64 M.n) := row_at r_h6.out 0
 have c_h6_1 : W6.cell? ⟨W2.heap.size, 1, none⟩ = some (.string M.r) := row_at r_h6.out 1
 have c_x6_0 : W6.cell? ⟨g_x, 0, none⟩ = some (.slice ao_x L_x cap_x) := row_at r_x6.out 0
 have c_x6_1 : W6.cell? ⟨g_x, 1, none⟩ = some (.int .i64 M.n) := row_at r_x6.out 1
 have c_x6_2 : W6.cell? ⟨g_x, 2, none⟩ = some (.string M.r) := row_at r_x6.out 2
 have c_s6_0 : W6.cell? ⟨g_s, 0, none⟩ = some (.slice ao_s L_s cap_s) := row_at r_s6.out 0
 have c_s6_1 : W6.cell? ⟨g_s, 1, none⟩ = some (.int .i64 M.n) := row_at r_s6.out 1
 have c_s6_2 : W6.cell? ⟨g_s, 2, none⟩ = some (.string M.r) := row_at r_s6.out 2
 have c_s6_3 : W6.cell? ⟨g_s, 3, none⟩ = some (.slice ao_sp L_sp cap_sp) := row_at r_s6.out 3
 have c_s6_4 : W6.cell? ⟨g_s, 4, none⟩ = some (.int .i64 0) := row_at r_s6.out 4
 clear r_h5 c_h5_0 c_h5_1 r_x5 c_x5_0 c_x5_1 c_x5_2 r_s5 c_s5_0 c_s5_1 c_s5_2 c_s5_3 c_s5_4 o_l5 o_x5 o_s5 o_sp5
 go_wp2_with fail
 refine (q6 W6 _ B6.out o_a6.out.sl).mono ?_
 rintro e W7 ⟨rfl, b7⟩
 have z7 : W6.heap.size ≤ W7.heap.size := b7.size
 have B7 : Hid (Below w.heap.size w W7) := B6.out.trans (b7.mono B6.out.size)
 have r_h7 : Hid (W7.heap[W2.heap.size]? = some (.cells #[.int .i64 M.n, .string M.r] 28 (0, 0))) := rowKeep r_h6.out b7
 have r_x7 : Hid (W7.heap[g_x]? = some (.cells #[.slice ao_x L_x cap_x, .int .i64 M.n, .string M.r] 31 (0, 0))) := rowKeep r_x6.out b7
 have r_s7 : Hid (W7.heap[g_s]? = some (.cells #[.slice ao_s L_s cap_s, .int .i64 M.n, .string M.r, .slice ao_sp L_sp cap_sp, .int .i64 0] 37 (0, 0))) := rowKeep r_s6.out b7
 have o_l7 : Hid (Own W7 (w.heap.size) (W1.heap.size) 9 (.slice ao_l L_l cap_l) (ss l)) := Own.later o_l6.out b7 (by omega)
 have o_x7 : Hid (Own W7 (lo_x) (hi_x) 9 (.slice ao_x L_x cap_x) (ss l)) := Own.later o_x6.out b7 (by omega)
 have o_s7 : Hid (Own W7 (lo_s) (hi_s) 9 (.slice ao_s L_s cap_s) (ss l)) := Own.later o_s6.out b7 (by omega)
 have o_sp7 : Hid (Own W7 (lo_sp) (hi_sp) 5 (.slice ao_sp L_sp cap_sp) (bs P)) := Own.later o_sp6.out b7 (by omega)
 have o_a7 : Hid (Own W7 (W5.heap.size) (W6.heap.size) 9 (.slice ao_a L_a cap_a) (ss [])) := Own.later o_a6.out b7 (by omega)
 have c_h7_0 : W7.cell? ⟨W2.heap.size, 0, none⟩ = some (.int .i64 M.n) := row_at r_h7.out 0
 have c_h7_1 : W7.cell? ⟨W2.heap.size, 1, none⟩ = some (.string M.r) := row_at r_h7.out 1
 have c_x7_0 : W7.cell? ⟨g_x, 0, none⟩ = some (.slice ao_x L_x cap_x) := row_at r_x7.out 0
 have c_x7_1 : W7.cell? ⟨g_x, 1, none⟩ = some (.int .i64 M.n) := row_at r_x7.out 1
 have c_x7_2 : W7.cell? ⟨g_x, 2, none⟩ = some (.string M.r) := row_at r_x7.out 2
 have c_s7_0 : W7.cell? ⟨g_s, 0, none⟩ = some (.slice ao_s L_s cap_s) := row_at r_s7.out 0
 have c_s7_1 : W7.cell? ⟨g_s, 1, none⟩ = some (.int .i64 M.n) := row_at r_s7.out 1
 have c_s7_2 : W7.cell? ⟨g_s, 2, none⟩ = some (.string M.r) := row_at r_s7.out 2
 have c_s7_3 : W7.cell? ⟨g_s, 3, none⟩ = some (.slice ao_sp L_sp cap_sp) := row_at r_s7.out 3
 have c_s7_4 : W7.cell? ⟨g_s, 4, none⟩ = some (.int .i64 0) := row_at r_s7.out 4
 clear r_h6 c_h6_0 c_h6_1 r_x6 c_x6_0 c_x6_1 c_x6_2 r_s6 c_s6_0 c_s6_1 c_s6_2 c_s6_3 c_s6_4 o_l6 o_x6 o_s6 o_sp6 o_a6
 clear o_a7
 go_wp2_with fail
 refine (iNew W7 B7.out).mono ?_
 rintro e W8 ⟨v_b, rfl, o_b8, b8⟩
 obtain ⟨ao_b, L_b, cap_b, rfl, hL_b, hM_b⟩ := o_b8.form
 have o_b8 : Hid (Own W8 W7.heap.size W8.heap.size 9 (.slice ao_b L_b cap_b) (ss [])) := o_b8
 clear hL_b hM_b
 have z8 : W7.heap.size ≤ W8.heap.size := b8.size
 have B8 : Hid (Below w.heap.size w W8) := B7.out.trans (b8.mono B7.out.size)
 have r_h8 : Hid (W8.heap[W2.heap.size]? = some (.cells #[.int .i64 M.n, .string M.r] 28 (0, 0))) := rowKeep r_h7.out b8
 have r_x8 : Hid (W8.heap[g_x]? = some (.cells #[.slice ao_x L_x cap_x, .int .i64 M.n, .string M.r] 31 (0, 0))) := rowKeep r_x7.out b8
 have r_s8 : Hid (W8.heap[g_s]? = some (.cells #[.slice ao_s L_s cap_s, .int .i64 M.n, .string M.r, .slice ao_sp L_sp cap_sp, .int .i64 0] 37 (0, 0))) := rowKeep r_s7.out b8
 have o_l8 : Hid (Own W8 (w.heap.size) (W1.heap.size) 9 (.slice ao_l L_l cap_l) (ss l)) := Own.later o_l7.out b8 (by omega)
 have o_x8 : Hid (Own W8 (lo_x) (hi_x) 9 (.slice ao_x L_x cap_x) (ss l)) := Own.later o_x7.out b8 (by omega)
 have o_s8 : Hid (Own W8 (lo_s) (hi_s) 9 (.slice ao_s L_s cap_s) (ss l)) := Own.later o_s7.out b8 (by omega)
 have o_sp8 : Hid (Own W8 (lo_sp) (hi_sp) 5 (.slice ao_sp L_sp cap_sp) (bs P)) := Own.later o_sp7.out b8 (by omega)
 have c_h8_0 : W8.cell? ⟨W2.heap.size, 0, none⟩ = some (.int .i64 M.n) := row_at r_h8.out 0
 have c_h8_1 : W8.cell? ⟨W2.heap.size, 1, none⟩ = some (.string M.r) := row_at r_h8.out 1
 have c_x8_0 : W8.cell? ⟨g_x, 0, none⟩ = some (.slice ao_x L_x cap_x) := row_at r_x8.out 0
 have c_x8_1 : W8.cell? ⟨g_x, 1, none⟩ = some (.int .i64 M.n) := row_at r_x8.out 1
 have c_x8_2 : W8.cell? ⟨g_x, 2, none⟩ = some (.string M.r) := row_at r_x8.out 2
 have c_s8_0 : W8.cell? ⟨g_s, 0, none⟩ = some (.slice ao_s L_s cap_s) := row_at r_s8.out 0
 have c_s8_1 : W8.cell? ⟨g_s, 1, none⟩ = some (.int .i64 M.n) := row_at r_s8.out 1
 have c_s8_2 : W8.cell? ⟨g_s, 2, none⟩ = some (.string M.r) := row_at r_s8.out 2
 have c_s8_3 : W8.cell? ⟨g_s, 3, none⟩ = some (.slice ao_sp L_sp cap_sp) := row_at r_s8.out 3
 have c_s8_4 : W8.cell? ⟨g_s, 4, none⟩ = some (.int .i64 0) := row_at r_s8.out 4
 clear r_h7 c_h7_0 c_h7_1 r_x7 c_x7_0 c_x7_1 c_x7_2 r_s7 c_s7_0 c_s7_1 c_s7_2 c_s7_3 c_s7_4 o_l7 o_x7 o_s7 o_sp7
 obtain rfl : L_b = 0 := by obtain ⟨a9, L9, c9, he, h1, h2⟩ := Mem.Own.form o_b8.out; injection he with _ he2 _; rw [ss_len] at h1 h2; simp at h1; omega
 clear o_b8
 go_wp2_with fail
 refine (Draw.same_true W8 _ _ l o_x8.out.sl o_l8.out.sl (by omega)).mono ?_
 rintro e W9 ⟨rfl, h9, _⟩
 have b9 : Below W8.heap.size W8 W9 := h9 _
 clear h9
 have z9 : W8.heap.size ≤ W9.heap.size := b9.size
 have B9 : Hid (Below w.heap.size w W9) := B8.out.trans (b9.mono B8.out.size)
 have r_h9 : Hid (W9.heap[W2.heap.size]? = some (.cells #[.int .i64 M.n, .string M.r] 28 (0, 0))) := rowKeep r_h8.out b9
 have r_x9 : Hid (W9.heap[g_x]? = some (.cells #[.slice ao_x L_x cap_x, .int .i64 M.n, .string M.r] 31 (0, 0))) := rowKeep r_x8.out b9
 have r_s9 : Hid (W9.heap[g_s]? = some (.cells #[.slice ao_s L_s cap_s, .int .i64 M.n, .string M.r, .slice ao_sp L_sp cap_sp, .int .i64 0] 37 (0, 0))) := rowKeep r_s8.out b9
 have o_l9 : Hid (Own W9 (w.heap.size) (W1.heap.size) 9 (.slice ao_l L_l cap_l) (ss l)) := Own.later o_l8.out b9 (by omega)
 have o_x9 : Hid (Own W9 (lo_x) (hi_x) 9 (.slice ao_x L_x cap_x) (ss l)) := Own.later o_x8.out b9 (by omega)
 have o_s9 : Hid (Own W9 (lo_s) (hi_s) 9 (.slice ao_s L_s cap_s) (ss l)) := Own.later o_s8.out b9 (by omega)
 have o_sp9 : Hid (Own W9 (lo_sp) (hi_sp) 5 (.slice ao_sp L_sp cap_sp) (bs P)) := Own.later o_sp8.out b9 (by omega)
 have c_h9_0 : W9.cell? ⟨W2.heap.size, 0, none⟩ = some (.int .i64 M.n) := row_at r_h9.out 0
 have c_h9_1 : W9.cell? ⟨W2.heap.size, 1, none⟩ = some (.string M.r) := row_at r_h9.out 1
 have c_x9_0 : W9.cell? ⟨g_x, 0, none⟩ = some (.slice ao_x L_x cap_x) := row_at r_x9.out 0
 have c_x9_1 : W9.cell? ⟨g_x, 1, none⟩ = some (.int .i64 M.n) := row_at r_x9.out 1
 have c_x9_2 : W9.cell? ⟨g_x, 2, none⟩ = some (.string M.r) := row_at r_x9.out 2
 have c_s9_0 : W9.cell? ⟨g_s, 0, none⟩ = some (.slice ao_s L_s cap_s) := row_at r_s9.out 0
 have c_s9_1 : W9.cell? ⟨g_s, 1, none⟩ = some (.int .i64 M.n) := row_at r_s9.out 1
 have c_s9_2 : W9.cell? ⟨g_s, 2, none⟩ = some (.string M.r) := row_at r_s9.out 2
 have c_s9_3 : W9.cell? ⟨g_s, 3, none⟩ = some (.slice ao_sp L_sp cap_sp) := row_at r_s9.out 3
 have c_s9_4 : W9.cell? ⟨g_s, 4, none⟩ = some (.int .i64 0) := row_at r_s9.out 4
 clear r_h8 c_h8_0 c_h8_1 r_x8 c_x8_0 c_x8_1 c_x8_2 r_s8 c_s8_0 c_s8_1 c_s8_2 c_s8_3 c_s8_4 o_l8 o_x8 o_s8 o_sp8
 go_wp2_with fail
 refine (Draw.same_true W9 _ _ l o_s9.out.sl o_l9.out.sl (by omega)).mono ?_
 rintro e W10 ⟨rfl, h10, _⟩
 have b10 : Below W9.heap.size W9 W10 := h10 _
 clear h10
 have z10 : W9.heap.size ≤ W10.heap.size := b10.size
 have B10 : Hid (Below w.heap.size w W10) := B9.out.trans (b10.mono B9.out.size)
 have r_h10 : Hid (W10.heap[W2.heap.size]? = some (.cells #[.int .i64 M.n, .string M.r] 28 (0, 0))) := rowKeep r_h9.out b10
 have r_x10 : Hid (W10.heap[g_x]? = some (.cells #[.slice ao_x L_x cap_x, .int .i64 M.n, .string M.r] 31 (0, 0))) := rowKeep r_x9.out b10
 have r_s10 : Hid (W10.heap[g_s]? = some (.cells #[.slice ao_s L_s cap_s, .int .i64 M.n, .string M.r, .slice ao_sp L_sp cap_sp, .int .i64 0] 37 (0, 0))) := rowKeep r_s9.out b10
 have o_l10 : Hid (Own W10 (w.heap.size) (W1.heap.size) 9 (.slice ao_l L_l cap_l) (ss l)) := Own.later o_l9.out b10 (by omega)
 have o_x10 : Hid (Own W10 (lo_x) (hi_x) 9 (.slice ao_x L_x cap_x) (ss l)) := Own.later o_x9.out b10 (by omega)
 have o_s10 : Hid (Own W10 (lo_s) (hi_s) 9 (.slice ao_s L_s cap_s) (ss l)) := Own.later o_s9.out b10 (by omega)
 have o_sp10 : Hid (Own W10 (lo_sp) (hi_sp) 5 (.slice ao_sp L_sp cap_sp) (bs P)) := Own.later o_sp9.out b10 (by omega)
 have c_h10_0 : W10.cell? ⟨W2.heap.size, 0, none⟩ = some (.int .i64 M.n) := row_at r_h10.out 0
 have c_h10_1 : W10.cell? ⟨W2.heap.size, 1, none⟩ = some (.string M.r) := row_at r_h10.out 1
 have c_x10_0 : W10.cell? ⟨g_x, 0, none⟩ = some (.slice ao_x L_x cap_x) := row_at r_x10.out 0
 have c_x10_1 : W10.cell? ⟨g_x, 1, none⟩ = some (.int .i64 M.n) := row_at r_x10.out 1
 have c_x10_2 : W10.cell? ⟨g_x, 2, none⟩ = some (.string M.r) := row_at r_x10.out 2
 have c_s10_0 : W10.cell? ⟨g_s, 0, none⟩ = some (.slice ao_s L_s cap_s) := row_at r_s10.out 0
 have c_s10_1 : W10.cell? ⟨g_s, 1, none⟩ = some (.int .i64 M.n) := row_at r_s10.out 1
 have c_s10_2 : W10.cell? ⟨g_s, 2, none⟩ = some (.string M.r) := row_at r_s10.out 2
 have c_s10_3 : W10.cell? ⟨g_s, 3, none⟩ = some (.slice ao_sp L_sp cap_sp) := row_at r_s10.out 3
 have c_s10_4 : W10.cell? ⟨g_s, 4, none⟩ = some (.int .i64 0) := row_at r_s10.out 4
 clear r_h9 c_h9_0 c_h9_1 r_x9 c_x9_0 c_x9_1 c_x9_2 r_s9 c_s9_0 c_s9_1 c_s9_2 c_s9_3 c_s9_4 o_l9 o_x9 o_s9 o_sp9
 go_wp2_with fail
 refine (q7 W10 _ _ B10.out o_s10.out.sl o_sp10.out.sl).mono ?_
 rintro e W11 ⟨rfl, b11⟩
 have z11 : W10.heap.size ≤ W11.heap.size := b11.size
 have B11 : Hid (Below w.heap.size w W11) := B10.out.trans (b11.mono B10.out.size)
 have r_h11 : Hid (W11.heap[W2.heap.size]? = some (.cells #[.int .i64 M.n, .string M.r] 28 (0, 0))) := rowKeep r_h10.out b11
 have r_x11 : Hid (W11.heap[g_x]? = some (.cells #[.slice ao_x L_x cap_x, .int .i64 M.n, .string M.r] 31 (0, 0))) := rowKeep r_x10.out b11
 have r_s11 : Hid (W11.heap[g_s]? = some (.cells #[.slice ao_s L_s cap_s, .int .i64 M.n, .string M.r, .slice ao_sp L_sp cap_sp, .int .i64 0] 37 (0, 0))) := rowKeep r_s10.out b11
 have o_l11 : Hid (Own W11 (w.heap.size) (W1.heap.size) 9 (.slice ao_l L_l cap_l) (ss l)) := Own.later o_l10.out b11 (by omega)
 have o_x11 : Hid (Own W11 (lo_x) (hi_x) 9 (.slice ao_x L_x cap_x) (ss l)) := Own.later o_x10.out b11 (by omega)
 have o_s11 : Hid (Own W11 (lo_s) (hi_s) 9 (.slice ao_s L_s cap_s) (ss l)) := Own.later o_s10.out b11 (by omega)
 have o_sp11 : Hid (Own W11 (lo_sp) (hi_sp) 5 (.slice ao_sp L_sp cap_sp) (bs P)) := Own.later o_sp10.out b11 (by omega)
 have c_h11_0 : W11.cell? ⟨W2.heap.size, 0, none⟩ = some (.int .i64 M.n) := row_at r_h11.out 0
 have c_h11_1 : W11.cell? ⟨W2.heap.size, 1, none⟩ = some (.string M.r) := row_at r_h11.out 1
 have c_x11_0 : W11.cell? ⟨g_x, 0, none⟩ = some (.slice ao_x L_x cap_x) := row_at r_x11.out 0
 have c_x11_1 : W11.cell? ⟨g_x, 1, none⟩ = some (.int .i64 M.n) := row_at r_x11.out 1
 have c_x11_2 : W11.cell? ⟨g_x, 2, none⟩ = some (.string M.r) := row_at r_x11.out 2
 have c_s11_0 : W11.cell? ⟨g_s, 0, none⟩ = some (.slice ao_s L_s cap_s) := row_at r_s11.out 0
 have c_s11_1 : W11.cell? ⟨g_s, 1, none⟩ = some (.int .i64 M.n) := row_at r_s11.out 1
 have c_s11_2 : W11.cell? ⟨g_s, 2, none⟩ = some (.string M.r) := row_at r_s11.out 2
 have c_s11_3 : W11.cell? ⟨g_s, 3, none⟩ = some (.slice ao_sp L_sp cap_sp) := row_at r_s11.out 3
 have c_s11_4 : W11.cell? ⟨g_s, 4, none⟩ = some (.int .i64 0) := row_at r_s11.out 4
 clear r_h10 c_h10_0 c_h10_1 r_x10 c_x10_0 c_x10_1 c_x10_2 r_s10 c_s10_0 c_s10_1 c_s10_2 c_s10_3 c_s10_4 o_l10 o_x10 o_s10 o_sp10
 go_wp2
 go_ret
 exact ⟨rfl, B11.out⟩
end Go.Proofs.YtfpaichdkddglaaGreatDoor.Sr
