/- Chapter 13, the landed code: a word out of bytes. -/
import Derived.Test.YteemblfjghnooaaWdB
import Derived.Test.YteemblfjghnooaaMg3
import Derived.Test.YteemblfjghnooaaSha2
namespace Go.Proofs.Yteemblfjghnooaa.Wd
open Go.Proofs.Yteemblfjghnooaa.Mg
open Go.RowKit Go.Proofs.Yteemblfjghnooaa.Mem Go.Proofs.Yteemblfjghnooaa.Laws Go.Proofs.Yteemblfjghnooaa.Bytes Go.Proofs.Yteemblfjghnooaa.Sha Go.Proofs.Yteemblfjghnooaa.Tr Go.Proofs.Yteemblfjghnooaa.He
set_option linter.unusedVariables false
set_option linter.unusedSimpArgs false

theorem res_m3 {P : Program} {fn : Func} {p q u : Tmp} {ty : TypeId} (h : fn.results = #[.cell p ty, .tmp q, .tmp u]) (tmps : Array Value) (w : World) (g1 : Nat) (t : TypeId) (c1 : Array Value) (fr : Nat × Nat) (d : TypeDesc)
    (hp : tmps.getD p undef = .pointer (some ⟨g1, 0, none⟩)) (hg1 : w.heap[g1]? = some (.cells c1 t fr))
    (hu : P.underlying ty = some d) (hd : (match d with | .struct _ | .array _ _ => true | _ => false) = true) (hi1 : (P.info? ty).map (·.size) = some c1.size) :
    (results fn tmps).run P w = .ok (.tuple #[.agg c1, tmps.getD q undef, tmps.getD u undef]) w := by
  have hp' : tmps[p]?.getD undef = .pointer (some ⟨g1, 0, none⟩) := by simpa using hp
  simp [results, h, hp', asAddr, run_loadVar_row w g1 t ty c1 fr d hg1 hu hd hi1]
/-- so many numbers, one behind the other -/
def readN (xs : List Int) : Nat → Int → Option (List Int × Int)
  | 0, p => some ([], p)
  | m + 1, p => if (Plain.getNum xs p).2.2 = true then (readN xs m (Plain.getNum xs p).2.1).map (fun z => ((Plain.getNum xs p).1 :: z.1, z.2)) else none
theorem readN_yes {xs : List Int} {m : Nat} {p n q : Int} (e : Plain.getNum xs p = (n, q, true)) : readN xs (m + 1) p = (readN xs m q).map (fun z => (n :: z.1, z.2)) := by
  rw [readN, e]
  simp
theorem readN_no {xs : List Int} {m : Nat} {p n q : Int} (e : Plain.getNum xs p = (n, q, false)) : readN xs (m + 1) p = none := by
  rw [readN, e]
  simp
theorem readN_none {xs : List Int} (h : readN xs 4 0 = none) : (place xs).2 = false := by
  obtain ⟨k, p0, o0, e0⟩ : ∃ n p ok, Plain.getNum xs 0 = (n, p, ok) := ⟨_, _, _, rfl⟩
  obtain ⟨f, p1, o1, e1⟩ : ∃ n p ok, Plain.getNum xs p0 = (n, p, ok) := ⟨_, _, _, rfl⟩
  obtain ⟨t, p2, o2, e2⟩ : ∃ n p ok, Plain.getNum xs p1 = (n, p, ok) := ⟨_, _, _, rfl⟩
  obtain ⟨s, p3, o3, e3⟩ : ∃ n p ok, Plain.getNum xs p2 = (n, p, ok) := ⟨_, _, _, rfl⟩
  obtain ⟨r, p4, o4, e4⟩ : ∃ n p ok, Plain.getText xs p3 = (n, p, ok) := ⟨_, _, _, rfl⟩
  obtain ⟨n, p5, o5, e5⟩ : ∃ n p ok, Plain.getNum xs p4 = (n, p, ok) := ⟨_, _, _, rfl⟩
  obtain ⟨x, p6, o6, e6⟩ : ∃ n p ok, Plain.getTexts xs p5 = (n, p, ok) := ⟨_, _, _, rfl⟩
  rw [place_of e0 e1 e2 e3 e4 e5 e6]
  cases o0
  · simp
  · cases o1
    · simp
    · cases o2
      · simp
      · cases o3
        · simp
        · rw [readN_yes e0, readN_yes e1, readN_yes e2, readN_yes e3] at h
          simp [readN] at h
theorem readN_some {xs : List Int} {a b c d p : Int} (h : readN xs 4 0 = some ([a, b, c, d], p)) : ∃ p0 p1 p2, Plain.getNum xs 0 = (a, p0, true) ∧ Plain.getNum xs p0 = (b, p1, true) ∧ Plain.getNum xs p1 = (c, p2, true) ∧ Plain.getNum xs p2 = (d, p, true) := by
  obtain ⟨k, p0, o0, e0⟩ : ∃ n p ok, Plain.getNum xs 0 = (n, p, ok) := ⟨_, _, _, rfl⟩
  obtain ⟨f, p1, o1, e1⟩ : ∃ n p ok, Plain.getNum xs p0 = (n, p, ok) := ⟨_, _, _, rfl⟩
  obtain ⟨t, p2, o2, e2⟩ : ∃ n p ok, Plain.getNum xs p1 = (n, p, ok) := ⟨_, _, _, rfl⟩
  obtain ⟨s, p3, o3, e3⟩ : ∃ n p ok, Plain.getNum xs p2 = (n, p, ok) := ⟨_, _, _, rfl⟩
  cases o0
  · rw [readN_no e0] at h; cases h
  · cases o1
    · rw [readN_yes e0, readN_no e1] at h; cases h
    · cases o2
      · rw [readN_yes e0, readN_yes e1, readN_no e2] at h; cases h
      · cases o3
        · rw [readN_yes e0, readN_yes e1, readN_yes e2, readN_no e3] at h; cases h
        · rw [readN_yes e0, readN_yes e1, readN_yes e2, readN_yes e3] at h
          simp only [readN, Option.map_some, Option.some.injEq, Prod.mk.injEq, List.cons.injEq, and_true] at h
          obtain ⟨⟨rfl, rfl, rfl, rfl⟩, rfl⟩ := h
          exact ⟨p0, p1, p2, e0, e1, e2, e3⟩
theorem four {ms : List Int} (h : ms.length = 4) : ∃ a b c d, ms = [a, b, c, d] := by
  match ms, h with
  | [a, b, c, d], _ => exact ⟨a, b, c, d, rfl⟩
theorem set_take3 {L : List Value} {ms : List Int} {k : Nat} {n : Int} (hk : k < L.length) (hm : ms.length = k) (h : L.take k = ms.map (Value.int .i64)) : (L.set k (.int .i64 n)).take (k + 1) = (ms ++ [n]).map (Value.int .i64) := by
  rw [List.take_add_one, List.take_set_of_le (Nat.le_refl _), h]
  simp [hk]

set_option maxRecDepth 1000000 in
set_option maxHeartbeats 4000000 in
theorem nums_impl (w : World) (v : Value) (xs : List Int) (h : Sl w v (bs xs)) (hb : Byt xs) (hx : xs.length ≤ 1000000000000) :
    Calls Try.prog 61 #[v, .int .i64 0, .int .i64 4] w fun e w' => ((e = .returned (.tuple #[.slice none 0 0, .int .i64 0, .bool false]) ∧ readN xs 4 0 = none) ∨ (∃ (g : Nat) (a b c d p : Int), e = .returned (.tuple #[.slice (some ⟨g, 0, none⟩) 4 4, .int .i64 p, .bool true]) ∧ readN xs 4 0 = some ([a, b, c, d], p) ∧ w.heap.size ≤ g ∧ g < w'.heap.size ∧ 0 ≤ p ∧ p ≤ xs.length ∧ w'.heap[g]? = some (.cells #[.int .i64 a, .int .i64 b, .int .i64 c, .int .i64 d] 3 (0, 0)))) ∧ Below w.heap.size w w' := by
  obtain ⟨i0, hi, hz0, hz1, hz2⟩ := info_parts info3
  have hlater : ∀ w', Below w.heap.size w w' → Sl w' v (bs xs) := fun w' hb => h.later hb
  obtain ⟨G, hG⟩ : ∃ G, readN xs 4 0 = G := ⟨_, rfl⟩
  have HG : Hid (readN xs 4 0 = G) := hG
  rw [hG]
  clear hG
  go_enter Try.func61, Try.ntmps61
  go_wp2_with (first | (at_make; refine wpList_make_full _ rfl _ _ 54 rfl w.heap.size 3 i0 (.int .i64 0) 1 Try.underlying54 hi hz0 hz1 _ _ _ _ 4 rfl rfl rfl rfl (by rw [hz2]; omega) (by unfold maxLen; omega) (Nat.le_refl _) ?_; intro w1 hown hgrow))
  have hbel : Below w.heap.size w w1 := (Below.refl _ _).grown hgrow (Nat.le_refl _) (by simp)
  clear hgrow
  go_loopw [1, 18] (fun ax i wr => ∃ (k : Nat) (L : List Value) (ms : List Int) (p : Int), k ≤ 4 ∧ i = .int .i64 k ∧ ax = .int .i64 p ∧ 0 ≤ p ∧ p ≤ xs.length ∧ Hid (ms.length = k ∧ L.take k = ms.map (Value.int .i64) ∧ G = (readN xs (4 - k) p).map (fun z => (ms ++ z.1, z.2))) ∧ wr.ownsRow w.heap.size 3 1 (.slice (some ⟨w.heap.size, 0, none⟩) 4 4) 4 L ∧ Below w.heap.size w wr) (fun _ i _ => 4 - (intOf i).toNat)
  case atStart => exact ⟨0, _, [], 0, Nat.zero_le _, rfl, rfl, by omega, by omega, ⟨rfl, by simp, by rw [← HG.out]; simp⟩, hown, hbel⟩
  case round =>
    obtain ⟨k, L, ms, p, hk, rfl, rfl, hp0, hp1, HE, hownr, hbr⟩ := hrel
    have HL : Hid (L.length = 4) := by have := hownr.1; show _ = _; omega
    have hsz := hbr.size
    clear hown hbel HG
    by_cases hlt : k < 4
    · have hget := Gets.get_impl wr v xs p (hlater wr hbr) hb (by omega) (by omega) (by omega)
      obtain ⟨n, q, ok, hr⟩ : ∃ n q ok, Plain.getNum xs p = (n, q, ok) := ⟨_, _, _, rfl⟩
      rw [hr] at hget
      simp only at hget
      have HN : Hid (Plain.getNum xs p = (n, q, ok)) := hr
      clear hr hlater
      obtain ⟨m, hm⟩ : ∃ m, 4 - k = m + 1 := ⟨4 - k - 1, by omega⟩
      cases ok with
      | false =>
        have HG : Hid (G = none) := by show _ = _; rw [HE.out.2.2, hm, readN_no HN.out]; rfl
        clear HE hm
        go_wp2_with (go_at_call 63; refine hget.mono ?_; rintro e wy ⟨rfl, hwy⟩; have hwy := hwy.symm; subst hwy)
        go_ret3
        exact ⟨.inl ⟨rfl, HG.out⟩, hbr⟩
      | true =>
        have hbd := Plain.getNum_bd HN.out
        have HX : Hid ((ms ++ [n]).length = k + 1 ∧ (L.set k (.int .i64 n)).take (k + 1) = (ms ++ [n]).map (Value.int .i64) ∧ G = (readN xs (4 - (k + 1)) q).map (fun z => ((ms ++ [n]) ++ z.1, z.2))) := by
          refine ⟨by rw [List.length_append, HE.out.1]; rfl, set_take3 (by have := HL.out; omega) HE.out.1 HE.out.2.1, ?_⟩
          rw [HE.out.2.2, hm, readN_yes HN.out, show 4 - (k + 1) = m by omega, Option.map_map]
          simp [Function.comp_def]
        obtain ⟨u, hu⟩ : ∃ u, wr.cell? ⟨w.heap.size, k, none⟩ = some u := ⟨L[k]'(by have := HL.out; omega), by rw [hownr.cellAt k (by omega)]; simp⟩
        have hf := hownr.frozenAt k
        have hst := hownr.stored k (.int .i64 n)
        have HS : Hid ((wr.setCell ⟨w.heap.size, k, none⟩ (.int .i64 n)).ownsRow w.heap.size 3 1 (.slice (some ⟨w.heap.size, 0, none⟩) 4 4) 4 (L.set k (.int .i64 n))) := hst.1
        have hk4 : (k : Int) < 4 := by omega
        clear HE hm hst HL
        go_wp2_with (go_at_call 63; refine hget.mono ?_; rintro e wy ⟨rfl, hwy⟩; have hwy := hwy.symm; subst hwy)
        go_roundw
        case rel => exact ⟨k + 1, L.set k (.int .i64 n), ms ++ [n], q, by omega, by go_num, rfl, by omega, by omega, HX.out, HS.out, hbr.setCell (Nat.le_refl _) _⟩
        case measure => simp [intOf]; omega
    · have hk4 : k = 4 := by omega
      subst hk4
      obtain ⟨a, b, c, d, he⟩ := four HE.out.1
      have HG : Hid (G = some ([a, b, c, d], p)) := by show _ = _; rw [HE.out.2.2, he]; simp [readN]
      have HR : Hid (wr.heap[w.heap.size]? = some (.cells #[.int .i64 a, .int .i64 b, .int .i64 c, .int .i64 d] 3 (0, 0))) := by
        show _ = _
        obtain ⟨h1, h2⟩ := hownr
        rcases h2 with ⟨h2, _⟩ | ⟨g, cap, cur, h2, h3, h4, h5, h6, h7, h8⟩
        · simp at h2
        · simp only [Value.slice.injEq, Option.some.injEq, Addr.mk.injEq] at h2
          obtain ⟨⟨rfl, -, -⟩, -, rfl⟩ := h2
          have e1 : cur.toList = [.int .i64 a, .int .i64 b, .int .i64 c, .int .i64 d] := by
            have t1 : L.take 4 = L := List.take_of_length_le (by omega)
            have t2 : cur.toList.take (4 * 1) = cur.toList := List.take_of_length_le (by rw [Array.length_toList]; omega)
            rw [← t2, h8, ← t1, HE.out.2.1, he]
            rfl
          have e2 : cur = #[.int .i64 a, .int .i64 b, .int .i64 c, .int .i64 d] := Array.ext' e1
          rw [h4, e2]
      have hgl : w.heap.size < wr.heap.size := (Array.getElem?_eq_some_iff.1 HR.out).1
      clear HE HL hownr
      go_wp2
      go_ret3
      exact ⟨.inr ⟨w.heap.size, a, b, c, d, p, rfl, HG.out, Nat.le_refl _, hgl, hp0, hp1, HR.out⟩, hbr⟩

set_option maxRecDepth 1000000 in
set_option maxHeartbeats 8000000 in
theorem read_impl (w : World) (v : Value) (xs : List Int) (hs : Sl w v (bs xs)) (hb : Byt xs) (hx : xs.length ≤ 1000000000000) :
    Calls Try.prog 34 #[v] w fun e w' => ((e = .returned (.tuple #[.agg #[.int .i64 0, .int .i64 0, .int .i64 0, .int .i64 0, .string ⟨#[]⟩, .int .i64 0, .slice none 0 0], .int .i64 0, .bool false]) ∧ (place xs).2 = false) ∨ (∃ (m : Ms) (p : Int) (u : Value), e = .returned (.tuple #[.agg #[.int .i64 m.k, .int .i64 m.f, .int .i64 m.t, .int .i64 m.h.n, .string m.h.r, .int .i64 m.n, u], .int .i64 p, .bool true]) ∧ place xs = (m, decide (p = (xs.length : Int))) ∧ m.x.length ≤ 200 ∧ m.h.r.size ≤ xs.length ∧ Own w' w.heap.size w'.heap.size 9 u (ss m.x))) ∧ Below w.heap.size w w' := by
  have HS : Hid (Sl w v (bs xs)) := hs
  have HBY : Hid (Byt xs) := hb
  obtain ⟨ao0, cap0, rfl, hc0⟩ := hs.form
  rw [bs_len] at *
  clear hs hb
  obtain ⟨G, hG⟩ : ∃ G, place xs = G := ⟨_, rfl⟩
  have HG : Hid (place xs = G) := hG
  rw [hG]
  clear hG
  have B0 : Hid (Below w.heap.size w w) := Below.refl _ _
  obtain ⟨i9, hi9, hz9a, hz9b, hz9c⟩ := info_parts info9t
  obtain ⟨W1, HW1, b1, y1, hS1, r_res1⟩ : ∃ X, Hid ((w.alloc (.cells #[.int .i64 0, .int .i64 0, .int .i64 0, .int .i64 0, .string ⟨#[]⟩, .int .i64 0, .slice none 0 0] 28)) = X) ∧ Below w.heap.size w X ∧ w.heap.size + 1 ≤ X.heap.size ∧ Hid (X.heap.size = w.heap.size + 1) ∧ Hid (X.heap[w.heap.size]? = some (.cells #[.int .i64 0, .int .i64 0, .int .i64 0, .int .i64 0, .string ⟨#[]⟩, .int .i64 0, .slice none 0 0] 28 (0, 0))) := ⟨_, rfl, ((Below.refl _ _).alloc (Nat.le_refl _) _), by simp, by show _ = _; simp, (by show _ = _; exact alloc_nth1_0 w _)⟩
  have z1 : w.heap.size ≤ W1.heap.size := b1.size
  have B1 : Hid (Below w.heap.size w W1) := B0.out.trans (b1.mono B0.out.size)
  have c_res1_0 : W1.cell? ⟨w.heap.size, 0, none⟩ = some (.int .i64 0) := row_at r_res1.out 0
  have c_res1_1 : W1.cell? ⟨w.heap.size, 1, none⟩ = some (.int .i64 0) := row_at r_res1.out 1
  have c_res1_2 : W1.cell? ⟨w.heap.size, 2, none⟩ = some (.int .i64 0) := row_at r_res1.out 2
  have c_res1_3 : W1.cell? ⟨w.heap.size, 3, none⟩ = some (.int .i64 0) := row_at r_res1.out 3
  have c_res1_4 : W1.cell? ⟨w.heap.size, 4, none⟩ = some (.string ⟨#[]⟩) := row_at r_res1.out 4
  have c_res1_5 : W1.cell? ⟨w.heap.size, 5, none⟩ = some (.int .i64 0) := row_at r_res1.out 5
  have c_res1_6 : W1.cell? ⟨w.heap.size, 6, none⟩ = some (.slice none 0 0) := row_at r_res1.out 6
  have q0 : ∀ W v1, Sl W v1 (bs xs) → _ := fun W v1 h1 => nums_impl W v1 xs h1 HBY.out (by omega)
  go_enter Try.func34, Try.ntmps34
  go_wp2_with fail
  rw [HW1.out]
  refine (q0 W1 _ (HS.out.later B1.out)).mono ?_
  rintro e W2 ⟨hor, b2⟩
  have z2 : W1.heap.size ≤ W2.heap.size := b2.size
  have B2 : Hid (Below w.heap.size w W2) := B1.out.trans (b2.mono B1.out.size)
  have r_res2 : Hid (W2.heap[w.heap.size]? = some (.cells #[.int .i64 0, .int .i64 0, .int .i64 0, .int .i64 0, .string ⟨#[]⟩, .int .i64 0, .slice none 0 0] 28 (0, 0))) := rowKeep r_res1.out b2
  have c_res2_0 : W2.cell? ⟨w.heap.size, 0, none⟩ = some (.int .i64 0) := row_at r_res2.out 0
  have c_res2_1 : W2.cell? ⟨w.heap.size, 1, none⟩ = some (.int .i64 0) := row_at r_res2.out 1
  have c_res2_2 : W2.cell? ⟨w.heap.size, 2, none⟩ = some (.int .i64 0) := row_at r_res2.out 2
  have c_res2_3 : W2.cell? ⟨w.heap.size, 3, none⟩ = some (.int .i64 0) := row_at r_res2.out 3
  have c_res2_4 : W2.cell? ⟨w.heap.size, 4, none⟩ = some (.string ⟨#[]⟩) := row_at r_res2.out 4
  have c_res2_5 : W2.cell? ⟨w.heap.size, 5, none⟩ = some (.int .i64 0) := row_at r_res2.out 5
  have c_res2_6 : W2.cell? ⟨w.heap.size, 6, none⟩ = some (.slice none 0 0) := row_at r_res2.out 6
  clear r_res1 c_res1_0 c_res1_1 c_res1_2 c_res1_3 c_res1_4 c_res1_5 c_res1_6
  clear q0
  rcases hor with ⟨rfl, hor⟩ | ⟨g, a, b, c, d, p3, rfl, hor, hg1, hg2, hp0, hp1, hgr⟩
  · have HN : Hid (G.2 = false) := by show _ = _; rw [← HG.out]; exact readN_none hor
    go_wp2_with (refine wpList_store_row rfl 28 _ _ rfl (w.heap.size) (mc ms0 (.slice none 0 0)) rfl rfl 28 _ r_res2.out (sizeM _ _) rfl (oneM _ rfl) ?_)
    exact bodyPost_ret (res_m3 rfl _ _ (w.heap.size) 28 (mc ms0 (.slice none 0 0)) (0, 0) _ rfl (setRow_heap _ _ _ _ _ (0, 0) r_res2.out) Try.underlying28 rfl (sizeM _ _)) rfl ⟨.inl ⟨rfl, HN.out⟩, below_setRow B2.out (by omega) _⟩
  · have r_q2 : Hid (W2.heap[g]? = some (.cells #[.int .i64 a, .int .i64 b, .int .i64 c, .int .i64 d] 3 (0, 0))) := hgr
    clear hgr
    obtain ⟨p0, p1, p2, e0, e1, e2, e3⟩ := readN_some hor
    clear hor
    have E0 : Hid (Plain.getNum xs 0 = (a, p0, true)) := e0
    have E1 : Hid (Plain.getNum xs p0 = (b, p1, true)) := e1
    have E2 : Hid (Plain.getNum xs p1 = (c, p2, true)) := e2
    have E3 : Hid (Plain.getNum xs p2 = (d, p3, true)) := e3
    clear e0 e1 e2 e3
    have c_q2_0 : W2.cell? ⟨g, 0, none⟩ = some (.int .i64 a) := row_at r_q2.out 0
    have c_q2_1 : W2.cell? ⟨g, 1, none⟩ = some (.int .i64 b) := row_at r_q2.out 1
    have c_q2_2 : W2.cell? ⟨g, 2, none⟩ = some (.int .i64 c) := row_at r_q2.out 2
    have c_q2_3 : W2.cell? ⟨g, 3, none⟩ = some (.int .i64 d) := row_at r_q2.out 3
    obtain ⟨s, p4, o4, e4⟩ : ∃ n p ok, Plain.getText xs p3 = (n, p, ok) := ⟨_, _, _, rfl⟩
    have s4 := textS xs p3
    rw [e4] at s4
    simp only at s4
    have E4 : Hid (Plain.getText xs p3 = (s, p4, o4)) := e4
    have q1 : ∀ W v1, Sl W v1 (bs xs) → _ := fun W v1 h1 => GetT.text_impl W v1 xs p3 h1 HBY.out (by omega) (by omega) (by omega)
    simp only [e4] at q1
    clear e4
    go_wp2_with fail
    refine (q1 W2 _ (HS.out.later B2.out)).mono ?_
    rintro e W_ ⟨rfl, hW_⟩
    have hW_ := hW_.symm
    subst hW_
    clear q1
    obtain ⟨n, p5, o5, e5⟩ : ∃ n p ok, Plain.getNum xs p4 = (n, p, ok) := ⟨_, _, _, rfl⟩
    have s5 := numS xs p4
    rw [e5] at s5
    simp only at s5
    have E5 : Hid (Plain.getNum xs p4 = (n, p5, o5)) := e5
    have q2 : ∀ W v1, Sl W v1 (bs xs) → _ := fun W v1 h1 => Gets.get_impl W v1 xs p4 h1 HBY.out (by omega) (by omega) (by omega)
    simp only [e5] at q2
    clear e5
    obtain ⟨x, p6, o6, e6⟩ : ∃ n p ok, Plain.getTexts xs p5 = (n, p, ok) := ⟨_, _, _, rfl⟩
    have s6 := Plain.getTexts_len xs p5
    rw [e6] at s6
    simp only at s6
    have E6 : Hid (Plain.getTexts xs p5 = (x, p6, o6)) := e6
    have q3 : ∀ W v1, Sl W v1 (bs xs) → _ := fun W v1 h1 => GetTs.texts_impl W v1 xs p5 h1 HBY.out (by omega) (by omega) (by omega)
    unfold GetTs.Done at q3
    simp only [e6] at q3
    clear e6
    have HPL : Hid (place xs = (⟨a, b, c, ⟨d, s⟩, n, x⟩, o4 && o5 && o6 && decide (p6 = (xs.length : Int)))) := by show _ = _; rw [place_of E0.out E1.out E2.out E3.out E4.out E5.out E6.out]; simp
    clear E0 E1 E2 E3 E4 E5 E6
    cases o4
    · clear q2 q3
      have HN : Hid (G.2 = false) := by show _ = _; rw [← HG.out]; rw [HPL.out]; simp
      go_wp2_with (refine wpList_store_row rfl 28 _ _ rfl (w.heap.size) (mc ms0 (.slice none 0 0)) rfl rfl 28 _ r_res2.out (sizeM _ _) rfl (oneM _ rfl) ?_)
      exact bodyPost_ret (res_m3 rfl _ _ (w.heap.size) 28 (mc ms0 (.slice none 0 0)) (0, 0) _ rfl (setRow_heap _ _ _ _ _ (0, 0) r_res2.out) Try.underlying28 rfl (sizeM _ _)) rfl ⟨.inl ⟨rfl, HN.out⟩, below_setRow B2.out (by omega) _⟩
    · go_wp2_with fail
      refine (q2 W2 _ (HS.out.later B2.out)).mono ?_
      rintro e W_ ⟨rfl, hW_⟩
      have hW_ := hW_.symm
      subst hW_
      clear q2
      cases o5
      · clear q3
        have HN : Hid (G.2 = false) := by show _ = _; rw [← HG.out]; rw [HPL.out]; simp
        go_wp2_with (refine wpList_store_row rfl 28 _ _ rfl (w.heap.size) (mc ms0 (.slice none 0 0)) rfl rfl 28 _ r_res2.out (sizeM _ _) rfl (oneM _ rfl) ?_)
        exact bodyPost_ret (res_m3 rfl _ _ (w.heap.size) 28 (mc ms0 (.slice none 0 0)) (0, 0) _ rfl (setRow_heap _ _ _ _ _ (0, 0) r_res2.out) Try.underlying28 rfl (sizeM _ _)) rfl ⟨.inl ⟨rfl, HN.out⟩, below_setRow B2.out (by omega) _⟩
      · go_wp2_with fail
        refine (q3 W2 _ (HS.out.later B2.out)).mono ?_
        rintro e W3 ⟨v_x, rfl, o_x3, b3⟩
        obtain ⟨ao_x, L_x, cap_x, rfl, hL_x, hM_x⟩ := o_x3.form
        have o_x3 : Hid (Own W3 W2.heap.size W3.heap.size 9 (.slice ao_x L_x cap_x) (ss x)) := o_x3
        clear hL_x hM_x
        have z3 : W2.heap.size ≤ W3.heap.size := b3.size
        have B3 : Hid (Below w.heap.size w W3) := B2.out.trans (b3.mono B2.out.size)
        have r_res3 : Hid (W3.heap[w.heap.size]? = some (.cells #[.int .i64 0, .int .i64 0, .int .i64 0, .int .i64 0, .string ⟨#[]⟩, .int .i64 0, .slice none 0 0] 28 (0, 0))) := rowKeep r_res2.out b3
        have r_q3 : Hid (W3.heap[g]? = some (.cells #[.int .i64 a, .int .i64 b, .int .i64 c, .int .i64 d] 3 (0, 0))) := rowKeep r_q2.out b3
        have c_res3_0 : W3.cell? ⟨w.heap.size, 0, none⟩ = some (.int .i64 0) := row_at r_res3.out 0
        have c_res3_1 : W3.cell? ⟨w.heap.size, 1, none⟩ = some (.int .i64 0) := row_at r_res3.out 1
        have c_res3_2 : W3.cell? ⟨w.heap.size, 2, none⟩ = some (.int .i64 0) := row_at r_res3.out 2
        have c_res3_3 : W3.cell? ⟨w.heap.size, 3, none⟩ = some (.int .i64 0) := row_at r_res3.out 3
        have c_res3_4 : W3.cell? ⟨w.heap.size, 4, none⟩ = some (.string ⟨#[]⟩) := row_at r_res3.out 4
        have c_res3_5 : W3.cell? ⟨w.heap.size, 5, none⟩ = some (.int .i64 0) := row_at r_res3.out 5
        have c_res3_6 : W3.cell? ⟨w.heap.size, 6, none⟩ = some (.slice none 0 0) := row_at r_res3.out 6
        have c_q3_0 : W3.cell? ⟨g, 0, none⟩ = some (.int .i64 a) := row_at r_q3.out 0
        have c_q3_1 : W3.cell? ⟨g, 1, none⟩ = some (.int .i64 b) := row_at r_q3.out 1
        have c_q3_2 : W3.cell? ⟨g, 2, none⟩ = some (.int .i64 c) := row_at r_q3.out 2
        have c_q3_3 : W3.cell? ⟨g, 3, none⟩ = some (.int .i64 d) := row_at r_q3.out 3
        clear r_res2 c_res2_0 c_res2_1 c_res2_2 c_res2_3 c_res2_4 c_res2_5 c_res2_6 r_q2 c_q2_0 c_q2_1 c_q2_2 c_q2_3
        clear q3
        cases o6
        · have HN : Hid (G.2 = false) := by show _ = _; rw [← HG.out]; rw [HPL.out]; simp
          go_wp2_with (refine wpList_store_row rfl 28 _ _ rfl (w.heap.size) (mc ms0 (.slice none 0 0)) rfl rfl 28 _ r_res3.out (sizeM _ _) rfl (oneM _ rfl) ?_)
          exact bodyPost_ret (res_m3 rfl _ _ (w.heap.size) 28 (mc ms0 (.slice none 0 0)) (0, 0) _ rfl (setRow_heap _ _ _ _ _ (0, 0) r_res3.out) Try.underlying28 rfl (sizeM _ _)) rfl ⟨.inl ⟨rfl, HN.out⟩, below_setRow B3.out (by omega) _⟩
        · have HN : Hid (G = (⟨a, b, c, ⟨d, s⟩, n, x⟩, decide (p6 = (xs.length : Int)))) := by show _ = _; rw [← HG.out, HPL.out]; simp
          clear HPL HG
          have ke_0 := c_q3_0
          have ke_1 := c_q3_1
          have ke_2 := c_q3_2
          have ke_3 := c_q3_3
          have a_res3_0 : ∀ o, (W3.alloc o).cell? ⟨w.heap.size, 0, none⟩ = some (.int .i64 0) := fun o => keepR c_res3_0 ((Below.refl _ _).alloc (Nat.le_refl _) o)
          have a_res3_1 : ∀ o, (W3.alloc o).cell? ⟨w.heap.size, 1, none⟩ = some (.int .i64 0) := fun o => keepR c_res3_1 ((Below.refl _ _).alloc (Nat.le_refl _) o)
          have a_res3_2 : ∀ o, (W3.alloc o).cell? ⟨w.heap.size, 2, none⟩ = some (.int .i64 0) := fun o => keepR c_res3_2 ((Below.refl _ _).alloc (Nat.le_refl _) o)
          have a_res3_3 : ∀ o, (W3.alloc o).cell? ⟨w.heap.size, 3, none⟩ = some (.int .i64 0) := fun o => keepR c_res3_3 ((Below.refl _ _).alloc (Nat.le_refl _) o)
          have a_res3_4 : ∀ o, (W3.alloc o).cell? ⟨w.heap.size, 4, none⟩ = some (.string ⟨#[]⟩) := fun o => keepR c_res3_4 ((Below.refl _ _).alloc (Nat.le_refl _) o)
          have a_res3_5 : ∀ o, (W3.alloc o).cell? ⟨w.heap.size, 5, none⟩ = some (.int .i64 0) := fun o => keepR c_res3_5 ((Below.refl _ _).alloc (Nat.le_refl _) o)
          have a_res3_6 : ∀ o, (W3.alloc o).cell? ⟨w.heap.size, 6, none⟩ = some (.slice none 0 0) := fun o => keepR c_res3_6 ((Below.refl _ _).alloc (Nat.le_refl _) o)
          have a_q3_0 : ∀ o, (W3.alloc o).cell? ⟨g, 0, none⟩ = some (.int .i64 a) := fun o => keepR c_q3_0 ((Below.refl _ _).alloc (Nat.le_refl _) o)
          have a_q3_1 : ∀ o, (W3.alloc o).cell? ⟨g, 1, none⟩ = some (.int .i64 b) := fun o => keepR c_q3_1 ((Below.refl _ _).alloc (Nat.le_refl _) o)
          have a_q3_2 : ∀ o, (W3.alloc o).cell? ⟨g, 2, none⟩ = some (.int .i64 c) := fun o => keepR c_q3_2 ((Below.refl _ _).alloc (Nat.le_refl _) o)
          have a_q3_3 : ∀ o, (W3.alloc o).cell? ⟨g, 3, none⟩ = some (.int .i64 d) := fun o => keepR c_q3_3 ((Below.refl _ _).alloc (Nat.le_refl _) o)
          obtain ⟨W4, HW4, b4, y4, hS4, r_h4⟩ : ∃ X, Hid ((W3.alloc (.cells #[.int .i64 d, .string s] 25)) = X) ∧ Below W3.heap.size W3 X ∧ W3.heap.size + 1 ≤ X.heap.size ∧ Hid (X.heap.size = W3.heap.size + 1) ∧ Hid (X.heap[W3.heap.size]? = some (.cells #[.int .i64 d, .string s] 25 (0, 0))) := ⟨_, rfl, ((Below.refl _ _).alloc (Nat.le_refl _) _), by simp, by show _ = _; simp, (by show _ = _; exact alloc_nth1_0 W3 _)⟩
          have z4 : W3.heap.size ≤ W4.heap.size := b4.size
          have B4 : Hid (Below w.heap.size w W4) := B3.out.trans (b4.mono B3.out.size)
          have r_res4 : Hid (W4.heap[w.heap.size]? = some (.cells #[.int .i64 0, .int .i64 0, .int .i64 0, .int .i64 0, .string ⟨#[]⟩, .int .i64 0, .slice none 0 0] 28 (0, 0))) := rowKeep r_res3.out b4
          have r_q4 : Hid (W4.heap[g]? = some (.cells #[.int .i64 a, .int .i64 b, .int .i64 c, .int .i64 d] 3 (0, 0))) := rowKeep r_q3.out b4
          have o_x4 : Hid (Own W4 (W2.heap.size) (W3.heap.size) 9 (.slice ao_x L_x cap_x) (ss x)) := Own.later o_x3.out b4 (by omega)
          have c_res4_0 : W4.cell? ⟨w.heap.size, 0, none⟩ = some (.int .i64 0) := row_at r_res4.out 0
          have c_res4_1 : W4.cell? ⟨w.heap.size, 1, none⟩ = some (.int .i64 0) := row_at r_res4.out 1
          have c_res4_2 : W4.cell? ⟨w.heap.size, 2, none⟩ = some (.int .i64 0) := row_at r_res4.out 2
          have c_res4_3 : W4.cell? ⟨w.heap.size, 3, none⟩ = some (.int .i64 0) := row_at r_res4.out 3
          have c_res4_4 : W4.cell? ⟨w.heap.size, 4, none⟩ = some (.string ⟨#[]⟩) := row_at r_res4.out 4
          have c_res4_5 : W4.cell? ⟨w.heap.size, 5, none⟩ = some (.int .i64 0) := row_at r_res4.out 5
          have c_res4_6 : W4.cell? ⟨w.heap.size, 6, none⟩ = some (.slice none 0 0) := row_at r_res4.out 6
          have c_q4_0 : W4.cell? ⟨g, 0, none⟩ = some (.int .i64 a) := row_at r_q4.out 0
          have c_q4_1 : W4.cell? ⟨g, 1, none⟩ = some (.int .i64 b) := row_at r_q4.out 1
          have c_q4_2 : W4.cell? ⟨g, 2, none⟩ = some (.int .i64 c) := row_at r_q4.out 2
          have c_q4_3 : W4.cell? ⟨g, 3, none⟩ = some (.int .i64 d) := row_at r_q4.out 3
          have c_h4_0 : W4.cell? ⟨W3.heap.size, 0, none⟩ = some (.int .i64 d) := row_at r_h4.out 0
          have c_h4_1 : W4.cell? ⟨W3.heap.size, 1, none⟩ = some (.string s) := row_at r_h4.out 1
          clear r_res3 c_res3_0 c_res3_1 c_res3_2 c_res3_3 c_res3_4 c_res3_5 c_res3_6 r_q3 c_q3_0 c_q3_1 c_q3_2 c_q3_3 o_x3
          go_wp2_with fail
          rw [HW4.out]
          clear a_res3_0 a_res3_1 a_res3_2 a_res3_3 a_res3_4 a_res3_5 a_res3_6 a_q3_0 a_q3_1 a_q3_2 a_q3_3
          clear ke_0 ke_1 ke_2 ke_3
          refine wp_region_held_drew (S := fun w' => w'.cell? ⟨g, 0, none⟩ = some (.int .i64 a) ∧ w'.cell? ⟨g, 1, none⟩ = some (.int .i64 b) ∧ w'.cell? ⟨g, 2, none⟩ = some (.int .i64 c) ∧ w'.cell? ⟨g, 3, none⟩ = some (.int .i64 d) ∧ w'.cell? ⟨W3.heap.size, 0, none⟩ = some (.int .i64 d) ∧ w'.cell? ⟨W3.heap.size, 1, none⟩ = some (.string s)) (by kernel_rfl) ⟨c_q4_0, c_q4_1, c_q4_2, c_q4_3, c_h4_0, c_h4_1⟩ (fun hHeld => ?_)
          obtain ⟨W5, HW5, b5⟩ : ∃ X, Hid (W4.drew = X) ∧ Below W4.heap.size W4 X := ⟨_, rfl, Below.drew (Below.refl _ _)⟩
          have HHW5 := HW5.out
          rw [HHW5] at hHeld ⊢
          clear HHW5
          have z5 : W4.heap.size ≤ W5.heap.size := b5.size
          have B5 : Hid (Below w.heap.size w W5) := B4.out.trans (b5.mono B4.out.size)
          have r_res5 : Hid (W5.heap[w.heap.size]? = some (.cells #[.int .i64 0, .int .i64 0, .int .i64 0, .int .i64 0, .string ⟨#[]⟩, .int .i64 0, .slice none 0 0] 28 (0, 0))) := rowKeep r_res4.out b5
          have r_q5 : Hid (W5.heap[g]? = some (.cells #[.int .i64 a, .int .i64 b, .int .i64 c, .int .i64 d] 3 (0, 0))) := rowKeep r_q4.out b5
          have r_h5 : Hid (W5.heap[W3.heap.size]? = some (.cells #[.int .i64 d, .string s] 25 (0, 0))) := rowKeep r_h4.out b5
          have o_x5 : Hid (Own W5 (W2.heap.size) (W3.heap.size) 9 (.slice ao_x L_x cap_x) (ss x)) := Own.later o_x4.out b5 (by omega)
          have c_res5_0 : W5.cell? ⟨w.heap.size, 0, none⟩ = some (.int .i64 0) := row_at r_res5.out 0
          have c_res5_1 : W5.cell? ⟨w.heap.size, 1, none⟩ = some (.int .i64 0) := row_at r_res5.out 1
          have c_res5_2 : W5.cell? ⟨w.heap.size, 2, none⟩ = some (.int .i64 0) := row_at r_res5.out 2
          have c_res5_3 : W5.cell? ⟨w.heap.size, 3, none⟩ = some (.int .i64 0) := row_at r_res5.out 3
          have c_res5_4 : W5.cell? ⟨w.heap.size, 4, none⟩ = some (.string ⟨#[]⟩) := row_at r_res5.out 4
          have c_res5_5 : W5.cell? ⟨w.heap.size, 5, none⟩ = some (.int .i64 0) := row_at r_res5.out 5
          have c_res5_6 : W5.cell? ⟨w.heap.size, 6, none⟩ = some (.slice none 0 0) := row_at r_res5.out 6
          have c_q5_0 : W5.cell? ⟨g, 0, none⟩ = some (.int .i64 a) := row_at r_q5.out 0
          have c_q5_1 : W5.cell? ⟨g, 1, none⟩ = some (.int .i64 b) := row_at r_q5.out 1
          have c_q5_2 : W5.cell? ⟨g, 2, none⟩ = some (.int .i64 c) := row_at r_q5.out 2
          have c_q5_3 : W5.cell? ⟨g, 3, none⟩ = some (.int .i64 d) := row_at r_q5.out 3
          have c_h5_0 : W5.cell? ⟨W3.heap.size, 0, none⟩ = some (.int .i64 d) := row_at r_h5.out 0
          have c_h5_1 : W5.cell? ⟨W3.heap.size, 1, none⟩ = some (.string s) := row_at r_h5.out 1
          clear r_res4 c_res4_0 c_res4_1 c_res4_2 c_res4_3 c_res4_4 c_res4_5 c_res4_6 r_q4 c_q4_0 c_q4_1 c_q4_2 c_q4_3 r_h4 c_h4_0 c_h4_1 o_x4
          (refine wpAnyH_take (i := 0) (v := ?v0x20) rfl (by kernel_rfl) (by kernel_rfl) (by kernel_rfl) (fun _ _ _ h => h) (Or.inl ⟨by rfl, ?hy0x20⟩) (by assumption) ?rest0x20; case hy0x20 => (intro w hSw; (try dsimp only at hSw); go_split_ands; go_simp; (try with_reducible rfl)))
          try simp only [Act.put, List.setIfInBounds_toArray, List.set_cons_zero, List.set_cons_succ, List.getElem_toArray, List.getElem_cons_zero, List.getElem_cons_succ]
          (refine wpAnyH_take (i := 1) (v := ?v1x21) rfl (by kernel_rfl) (by kernel_rfl) (by kernel_rfl) (fun _ _ _ h => h) (Or.inl ⟨by rfl, ?hy1x21⟩) (by assumption) ?rest1x21; case hy1x21 => (intro w hSw; (try dsimp only at hSw); go_split_ands; go_simp; (try with_reducible rfl)))
          try simp only [Act.put, List.setIfInBounds_toArray, List.set_cons_zero, List.set_cons_succ, List.getElem_toArray, List.getElem_cons_zero, List.getElem_cons_succ]
          (refine wpAnyH_take (i := 2) (v := ?v2x22) rfl (by kernel_rfl) (by kernel_rfl) (by kernel_rfl) (fun _ _ _ h => h) (Or.inl ⟨by rfl, ?hy2x22⟩) (by assumption) ?rest2x22; case hy2x22 => (intro w hSw; (try dsimp only at hSw); go_split_ands; go_simp; (try with_reducible rfl)))
          try simp only [Act.put, List.setIfInBounds_toArray, List.set_cons_zero, List.set_cons_succ, List.getElem_toArray, List.getElem_cons_zero, List.getElem_cons_succ]
          (refine wpAnyH_take (i := 3) (v := ?v3x23) rfl (by kernel_rfl) (by kernel_rfl) (by kernel_rfl) (fun _ _ _ h => h) (Or.inl ⟨by rfl, ?hy3x23⟩) (by assumption) ?rest3x23; case hy3x23 => (intro w hSw; (try dsimp only at hSw); go_split_ands; go_simp; (try with_reducible rfl)))
          try simp only [Act.put, List.setIfInBounds_toArray, List.set_cons_zero, List.set_cons_succ, List.getElem_toArray, List.getElem_cons_zero, List.getElem_cons_succ]
          (refine wpAnyH_take (i := 4) (v := ?v4x24) rfl (by kernel_rfl) (by kernel_rfl) (by kernel_rfl) (fun _ _ _ h => h) (Or.inl ⟨by rfl, ?hy4x24⟩) (by assumption) ?rest4x24; case hy4x24 => (intro w hSw; (try dsimp only at hSw); go_split_ands; go_simp; (try with_reducible rfl)))
          try simp only [Act.put, List.setIfInBounds_toArray, List.set_cons_zero, List.set_cons_succ, List.getElem_toArray, List.getElem_cons_zero, List.getElem_cons_succ]
          (refine wpAnyH_take (i := 5) (v := ?v5x25) rfl (by kernel_rfl) (by kernel_rfl) (by kernel_rfl) (fun _ _ _ h => h) (Or.inl ⟨by rfl, ?hy5x25⟩) (by assumption) ?rest5x25; case hy5x25 => (intro w hSw; (try dsimp only at hSw); go_split_ands; go_simp; (try with_reducible rfl)))
          try simp only [Act.put, List.setIfInBounds_toArray, List.set_cons_zero, List.set_cons_succ, List.getElem_toArray, List.getElem_cons_zero, List.getElem_cons_succ]
          (refine wpAnyH_take (i := 6) (v := ?v6x26) rfl (by kernel_rfl) (by kernel_rfl) (by kernel_rfl) (fun _ _ _ h => h) (Or.inl ⟨by rfl, ?hy6x26⟩) (by assumption) ?rest6x26; case hy6x26 => (intro w hSw; (try dsimp only at hSw); go_split_ands; go_simp; (try with_reducible rfl)))
          try simp only [Act.put, List.setIfInBounds_toArray, List.set_cons_zero, List.set_cons_succ, List.getElem_toArray, List.getElem_cons_zero, List.getElem_cons_succ]
          (refine wpAnyH_take (i := 7) (v := ?v7x27) rfl (by kernel_rfl) (by kernel_rfl) (by kernel_rfl) (fun _ _ _ h => h) (Or.inl ⟨by rfl, ?hy7x27⟩) (by assumption) ?rest7x27; case hy7x27 => (intro w hSw; (try dsimp only at hSw); go_split_ands; go_simp; (try with_reducible rfl)))
          try simp only [Act.put, List.setIfInBounds_toArray, List.set_cons_zero, List.set_cons_succ, List.getElem_toArray, List.getElem_cons_zero, List.getElem_cons_succ]
          (refine wpAnyH_take (i := 8) (v := ?v8x28) rfl (by kernel_rfl) (by kernel_rfl) (by kernel_rfl) (fun _ _ _ h => h) (Or.inl ⟨by rfl, ?hy8x28⟩) (by assumption) ?rest8x28; case hy8x28 => (intro w hSw; (try dsimp only at hSw); go_split_ands; go_simp; (try with_reducible rfl)))
          try simp only [Act.put, List.setIfInBounds_toArray, List.set_cons_zero, List.set_cons_succ, List.getElem_toArray, List.getElem_cons_zero, List.getElem_cons_succ]
          (refine wpAnyH_take (i := 9) (v := ?v9x29) rfl (by kernel_rfl) (by kernel_rfl) (by kernel_rfl) (fun _ _ _ h => h) (Or.inl ⟨by rfl, ?hy9x29⟩) (by assumption) ?rest9x29; case hy9x29 => (intro w hSw; (try dsimp only at hSw); go_split_ands; go_simp; (try with_reducible rfl)))
          try simp only [Act.put, List.setIfInBounds_toArray, List.set_cons_zero, List.set_cons_succ, List.getElem_toArray, List.getElem_cons_zero, List.getElem_cons_succ]
          (refine wpAnyH_take (i := 10) (v := ?v10x30) rfl (by kernel_rfl) (by kernel_rfl) (by kernel_rfl) (fun _ _ _ h => h) (Or.inl ⟨by rfl, ?hy10x30⟩) (by assumption) ?rest10x30; case hy10x30 => (intro w hSw; (try dsimp only at hSw); go_split_ands; go_simp; (try with_reducible rfl)))
          try simp only [Act.put, List.setIfInBounds_toArray, List.set_cons_zero, List.set_cons_succ, List.getElem_toArray, List.getElem_cons_zero, List.getElem_cons_succ]
          (refine wpAnyH_take (i := 11) (v := ?v11x31) rfl (by kernel_rfl) (by kernel_rfl) (by kernel_rfl) (fun _ _ _ h => h) (Or.inl ⟨by rfl, ?hy11x31⟩) (by assumption) ?rest11x31; case hy11x31 => (intro w hSw; (try dsimp only at hSw); go_split_ands; go_simp; (try with_reducible rfl)))
          try simp only [Act.put, List.setIfInBounds_toArray, List.set_cons_zero, List.set_cons_succ, List.getElem_toArray, List.getElem_cons_zero, List.getElem_cons_succ]
          (refine wpAnyH_take (i := 12) (v := ?v12x32) rfl (by kernel_rfl) (by kernel_rfl) (by kernel_rfl) (fun _ _ _ h => h) (Or.inl ⟨by rfl, ?hy12x32⟩) (by assumption) ?rest12x32; case hy12x32 => (intro w hSw; (try dsimp only at hSw); go_split_ands; go_simp; (try with_reducible rfl)))
          try simp only [Act.put, List.setIfInBounds_toArray, List.set_cons_zero, List.set_cons_succ, List.getElem_toArray, List.getElem_cons_zero, List.getElem_cons_succ]
          (refine wpAnyH_take (i := 13) (v := ?v13x33) rfl (by kernel_rfl) (by kernel_rfl) (by kernel_rfl) (fun _ _ _ h => h) (Or.inl ⟨by rfl, ?hy13x33⟩) (by assumption) ?rest13x33; case hy13x33 => (intro w hSw; (try dsimp only at hSw); go_split_ands; go_simp; (try with_reducible rfl)))
          try simp only [Act.put, List.setIfInBounds_toArray, List.set_cons_zero, List.set_cons_succ, List.getElem_toArray, List.getElem_cons_zero, List.getElem_cons_succ]
          refine wpAnyH_ready (rs := [14]) (by kernel_rfl) (by simp) ?_
          refine AllReadyH.cons rfl (fun K hK => ?_) AllReadyH.nil
          rw [if_pos (by rfl)]
          refine wp_partG 28 _ _ rfl (w.heap.size) 0 (mc ⟨a, b, c, ⟨d, s⟩, n, x⟩ (.slice ao_x L_x cap_x)) rfl rfl [.int .i64 0, .int .i64 0, .int .i64 0, .int .i64 0, .string ⟨#[]⟩, .int .i64 0, .slice none 0 0] 28 r_res5.out (Nat.le_of_ble_eq_true rfl) (sizeM _ _) (oneM _ rfl) [.int .i64 a, .int .i64 b, .int .i64 c, .int .i64 d, .string s, .int .i64 n, .slice ao_x L_x cap_x] rfl ?_
          intro W6 r_res6 g6
          refine hK.out _ _ ⟨(cellGro hHeld.1 g6 (by show some (w.heap.size) ≠ some (g); intro h9; injection h9 with h9; omega)), (cellGro hHeld.2.1 g6 (by show some (w.heap.size) ≠ some (g); intro h9; injection h9 with h9; omega)), (cellGro hHeld.2.2.1 g6 (by show some (w.heap.size) ≠ some (g); intro h9; injection h9 with h9; omega)), (cellGro hHeld.2.2.2.1 g6 (by show some (w.heap.size) ≠ some (g); intro h9; injection h9 with h9; omega)), (cellGro hHeld.2.2.2.2.1 g6 (by show some (w.heap.size) ≠ some (W3.heap.size); intro h9; injection h9 with h9; omega)), (cellGro hHeld.2.2.2.2.2 g6 (by show some (w.heap.size) ≠ some (W3.heap.size); intro h9; injection h9 with h9; omega))⟩ (fun hHeld => ?_)
          clear hK K
          try simp only [Act.put, List.setIfInBounds_toArray, List.set_cons_zero, List.set_cons_succ, List.getElem_toArray, List.getElem_cons_zero, List.getElem_cons_succ]
          have r_res6 : Hid (W6.heap[w.heap.size]? = some (.cells #[.int .i64 a, .int .i64 b, .int .i64 c, .int .i64 d, .string s, .int .i64 n, .slice ao_x L_x cap_x] 28 (0, 0))) := r_res6
          have z6 : W5.heap.size ≤ W6.heap.size := g6.size
          have B6 : Hid (Below w.heap.size w W6) := belowGro B5.out g6 B5.out.size (fun k9 h9 => by injection h9 with h9; have := B5.out.size; omega)
          have r_q6 : Hid (W6.heap[g]? = some (.cells #[.int .i64 a, .int .i64 b, .int .i64 c, .int .i64 d] 3 (0, 0))) := rowGro r_q5.out g6 (fun h9 => by injection h9 with h9; omega)
          have r_h6 : Hid (W6.heap[W3.heap.size]? = some (.cells #[.int .i64 d, .string s] 25 (0, 0))) := rowGro r_h5.out g6 (fun h9 => by injection h9 with h9; omega)
          have o_x6 : Hid (Own W6 (W2.heap.size) (W3.heap.size) 9 (.slice ao_x L_x cap_x) (ss x)) := Own.gro o_x5.out g6 (fun k9 h9 e9 => Own.neRow o_x5.out r_res5.out (by decide) (h9.trans e9.symm))
          have c_res6_0 : W6.cell? ⟨w.heap.size, 0, none⟩ = some (.int .i64 a) := row_at r_res6.out 0
          have c_res6_1 : W6.cell? ⟨w.heap.size, 1, none⟩ = some (.int .i64 b) := row_at r_res6.out 1
          have c_res6_2 : W6.cell? ⟨w.heap.size, 2, none⟩ = some (.int .i64 c) := row_at r_res6.out 2
          have c_res6_3 : W6.cell? ⟨w.heap.size, 3, none⟩ = some (.int .i64 d) := row_at r_res6.out 3
          have c_res6_4 : W6.cell? ⟨w.heap.size, 4, none⟩ = some (.string s) := row_at r_res6.out 4
          have c_res6_5 : W6.cell? ⟨w.heap.size, 5, none⟩ = some (.int .i64 n) := row_at r_res6.out 5
          have c_res6_6 : W6.cell? ⟨w.heap.size, 6, none⟩ = some (.slice ao_x L_x cap_x) := row_at r_res6.out 6
          have c_q6_0 : W6.cell? ⟨g, 0, none⟩ = some (.int .i64 a) := row_at r_q6.out 0
          have c_q6_1 : W6.cell? ⟨g, 1, none⟩ = some (.int .i64 b) := row_at r_q6.out 1
          have c_q6_2 : W6.cell? ⟨g, 2, none⟩ = some (.int .i64 c) := row_at r_q6.out 2
          have c_q6_3 : W6.cell? ⟨g, 3, none⟩ = some (.int .i64 d) := row_at r_q6.out 3
          have c_h6_0 : W6.cell? ⟨W3.heap.size, 0, none⟩ = some (.int .i64 d) := row_at r_h6.out 0
          have c_h6_1 : W6.cell? ⟨W3.heap.size, 1, none⟩ = some (.string s) := row_at r_h6.out 1
          clear r_q5 c_q5_0 c_q5_1 c_q5_2 c_q5_3 r_h5 c_h5_0 c_h5_1 o_x5
          clear r_res5 c_res5_0 c_res5_1 c_res5_2 c_res5_3 c_res5_4 c_res5_5 c_res5_6
          clear g6
          (refine wpAnyH_take (i := 15) (v := ?v15x34) rfl (by kernel_rfl) (by kernel_rfl) (by kernel_rfl) (fun _ _ _ h => h) (Or.inl ⟨by rfl, ?hy15x34⟩) (by assumption) ?rest15x34; case hy15x34 => (intro w hSw; (try dsimp only at hSw); go_split_ands; go_simp; (try with_reducible rfl)))
          try simp only [Act.put, List.setIfInBounds_toArray, List.set_cons_zero, List.set_cons_succ, List.getElem_toArray, List.getElem_cons_zero, List.getElem_cons_succ]
          (refine wpAnyH_take (i := 16) (v := ?v16x35) rfl (by kernel_rfl) (by kernel_rfl) (by kernel_rfl) (fun _ _ _ h => h) (Or.inl ⟨by rfl, ?hy16x35⟩) (by assumption) ?rest16x35; case hy16x35 => (intro w hSw; (try dsimp only at hSw); go_split_ands; go_simp; (try with_reducible rfl)))
          try simp only [Act.put, List.setIfInBounds_toArray, List.set_cons_zero, List.set_cons_succ, List.getElem_toArray, List.getElem_cons_zero, List.getElem_cons_succ]
          refine wpAnyH_done (by kernel_rfl) ?_ _
          clear hHeld
          go_wp2_with fail
          exact bodyPost_ret (res_m3 rfl _ _ (w.heap.size) 28 (mc ⟨a, b, c, ⟨d, s⟩, n, x⟩ (.slice ao_x L_x cap_x)) (0, 0) _ rfl r_res6.out Try.underlying28 rfl (sizeM _ _)) rfl ⟨.inr ⟨⟨a, b, c, ⟨d, s⟩, n, x⟩, p6, .slice ao_x L_x cap_x, rfl, HN.out, by simp only; omega, by simp only; omega, o_x6.out.mono (by omega) (by omega)⟩, B6.out⟩

set_option maxRecDepth 1000000 in
set_option maxHeartbeats 8000000 in
theorem getm_impl (w : World) (v : Value) (xs : List Int) (hs : Sl w v (bs xs)) (hb : Byt xs) (hx : xs.length ≤ 1000000000000) :
    Calls Try.prog 11 #[v] w fun e w' => GotM xs w e w' := by
  have HS : Hid (Sl w v (bs xs)) := hs
  have q0 : ∀ W v1, Sl W v1 (bs xs) → _ := fun W v1 h1 => read_impl W v1 xs h1 hb hx
  obtain ⟨ao0, cap0, rfl, hc0⟩ := hs.form
  rw [bs_len] at *
  clear hs hb
  unfold GotM
  obtain ⟨G, hG⟩ : ∃ G, getM xs = G := ⟨_, rfl⟩
  have HG : Hid (getM xs = G) := hG
  rw [hG]
  clear hG
  have B0 : Hid (Below w.heap.size w w) := Below.refl _ _
  obtain ⟨W1, HW1, b1, y1, hS1, r_res1⟩ : ∃ X, Hid ((w.alloc (.cells #[.int .i64 0, .int .i64 0, .int .i64 0, .int .i64 0, .string ⟨#[]⟩, .int .i64 0, .slice none 0 0] 28)) = X) ∧ Below w.heap.size w X ∧ w.heap.size + 1 ≤ X.heap.size ∧ Hid (X.heap.size = w.heap.size + 1) ∧ Hid (X.heap[w.heap.size]? = some (.cells #[.int .i64 0, .int .i64 0, .int .i64 0, .int .i64 0, .string ⟨#[]⟩, .int .i64 0, .slice none 0 0] 28 (0, 0))) := ⟨_, rfl, ((Below.refl _ _).alloc (Nat.le_refl _) _), by simp, by show _ = _; simp, (by show _ = _; exact alloc_nth1_0 w _)⟩
  have z1 : w.heap.size ≤ W1.heap.size := b1.size
  have B1 : Hid (Below w.heap.size w W1) := B0.out.trans (b1.mono B0.out.size)
  have c_res1_0 : W1.cell? ⟨w.heap.size, 0, none⟩ = some (.int .i64 0) := row_at r_res1.out 0
  have c_res1_1 : W1.cell? ⟨w.heap.size, 1, none⟩ = some (.int .i64 0) := row_at r_res1.out 1
  have c_res1_2 : W1.cell? ⟨w.heap.size, 2, none⟩ = some (.int .i64 0) := row_at r_res1.out 2
  have c_res1_3 : W1.cell? ⟨w.heap.size, 3, none⟩ = some (.int .i64 0) := row_at r_res1.out 3
  have c_res1_4 : W1.cell? ⟨w.heap.size, 4, none⟩ = some (.string ⟨#[]⟩) := row_at r_res1.out 4
  have c_res1_5 : W1.cell? ⟨w.heap.size, 5, none⟩ = some (.int .i64 0) := row_at r_res1.out 5
  have c_res1_6 : W1.cell? ⟨w.heap.size, 6, none⟩ = some (.slice none 0 0) := row_at r_res1.out 6
  go_enter Try.func11, Try.ntmps11
  go_wp2_with fail
  rw [HW1.out]
  refine (q0 W1 _ (HS.out.later B1.out)).mono ?_
  rintro e W2 ⟨hor, b2⟩
  have z2 : W1.heap.size ≤ W2.heap.size := b2.size
  have B2 : Hid (Below w.heap.size w W2) := B1.out.trans (b2.mono B1.out.size)
  have r_res2 : Hid (W2.heap[w.heap.size]? = some (.cells #[.int .i64 0, .int .i64 0, .int .i64 0, .int .i64 0, .string ⟨#[]⟩, .int .i64 0, .slice none 0 0] 28 (0, 0))) := rowKeep r_res1.out b2
  have c_res2_0 : W2.cell? ⟨w.heap.size, 0, none⟩ = some (.int .i64 0) := row_at r_res2.out 0
  have c_res2_1 : W2.cell? ⟨w.heap.size, 1, none⟩ = some (.int .i64 0) := row_at r_res2.out 1
  have c_res2_2 : W2.cell? ⟨w.heap.size, 2, none⟩ = some (.int .i64 0) := row_at r_res2.out 2
  have c_res2_3 : W2.cell? ⟨w.heap.size, 3, none⟩ = some (.int .i64 0) := row_at r_res2.out 3
  have c_res2_4 : W2.cell? ⟨w.heap.size, 4, none⟩ = some (.string ⟨#[]⟩) := row_at r_res2.out 4
  have c_res2_5 : W2.cell? ⟨w.heap.size, 5, none⟩ = some (.int .i64 0) := row_at r_res2.out 5
  have c_res2_6 : W2.cell? ⟨w.heap.size, 6, none⟩ = some (.slice none 0 0) := row_at r_res2.out 6
  clear r_res1 c_res1_0 c_res1_1 c_res1_2 c_res1_3 c_res1_4 c_res1_5 c_res1_6
  clear q0
  rcases hor with ⟨rfl, hor⟩ | ⟨m, p, v_x, rfl, hor, hl1, hl2, hox⟩
  · have HOR : Hid ((place xs).2 = false) := hor
    clear hor
    have a_res2_0 : ∀ o, (W2.alloc o).cell? ⟨w.heap.size, 0, none⟩ = some (.int .i64 0) := fun o => keepR c_res2_0 ((Below.refl _ _).alloc (Nat.le_refl _) o)
    have a_res2_1 : ∀ o, (W2.alloc o).cell? ⟨w.heap.size, 1, none⟩ = some (.int .i64 0) := fun o => keepR c_res2_1 ((Below.refl _ _).alloc (Nat.le_refl _) o)
    have a_res2_2 : ∀ o, (W2.alloc o).cell? ⟨w.heap.size, 2, none⟩ = some (.int .i64 0) := fun o => keepR c_res2_2 ((Below.refl _ _).alloc (Nat.le_refl _) o)
    have a_res2_3 : ∀ o, (W2.alloc o).cell? ⟨w.heap.size, 3, none⟩ = some (.int .i64 0) := fun o => keepR c_res2_3 ((Below.refl _ _).alloc (Nat.le_refl _) o)
    have a_res2_4 : ∀ o, (W2.alloc o).cell? ⟨w.heap.size, 4, none⟩ = some (.string ⟨#[]⟩) := fun o => keepR c_res2_4 ((Below.refl _ _).alloc (Nat.le_refl _) o)
    have a_res2_5 : ∀ o, (W2.alloc o).cell? ⟨w.heap.size, 5, none⟩ = some (.int .i64 0) := fun o => keepR c_res2_5 ((Below.refl _ _).alloc (Nat.le_refl _) o)
    have a_res2_6 : ∀ o, (W2.alloc o).cell? ⟨w.heap.size, 6, none⟩ = some (.slice none 0 0) := fun o => keepR c_res2_6 ((Below.refl _ _).alloc (Nat.le_refl _) o)
    obtain ⟨W3, HW3, b3, y3, hS3, r_m3⟩ : ∃ X, Hid ((W2.alloc (.cells #[.int .i64 0, .int .i64 0, .int .i64 0, .int .i64 0, .string ⟨#[]⟩, .int .i64 0, .slice none 0 0] 28)) = X) ∧ Below W2.heap.size W2 X ∧ W2.heap.size + 1 ≤ X.heap.size ∧ Hid (X.heap.size = W2.heap.size + 1) ∧ Hid (X.heap[W2.heap.size]? = some (.cells #[.int .i64 0, .int .i64 0, .int .i64 0, .int .i64 0, .string ⟨#[]⟩, .int .i64 0, .slice none 0 0] 28 (0, 0))) := ⟨_, rfl, ((Below.refl _ _).alloc (Nat.le_refl _) _), by simp, by show _ = _; simp, (by show _ = _; exact alloc_nth1_0 W2 _)⟩
    have z3 : W2.heap.size ≤ W3.heap.size := b3.size
    have B3 : Hid (Below w.heap.size w W3) := B2.out.trans (b3.mono B2.out.size)
    have r_res3 : Hid (W3.heap[w.heap.size]? = some (.cells #[.int .i64 0, .int .i64 0, .int .i64 0, .int .i64 0, .string ⟨#[]⟩, .int .i64 0, .slice none 0 0] 28 (0, 0))) := rowKeep r_res2.out b3
    have c_res3_0 : W3.cell? ⟨w.heap.size, 0, none⟩ = some (.int .i64 0) := row_at r_res3.out 0
    have c_res3_1 : W3.cell? ⟨w.heap.size, 1, none⟩ = some (.int .i64 0) := row_at r_res3.out 1
    have c_res3_2 : W3.cell? ⟨w.heap.size, 2, none⟩ = some (.int .i64 0) := row_at r_res3.out 2
    have c_res3_3 : W3.cell? ⟨w.heap.size, 3, none⟩ = some (.int .i64 0) := row_at r_res3.out 3
    have c_res3_4 : W3.cell? ⟨w.heap.size, 4, none⟩ = some (.string ⟨#[]⟩) := row_at r_res3.out 4
    have c_res3_5 : W3.cell? ⟨w.heap.size, 5, none⟩ = some (.int .i64 0) := row_at r_res3.out 5
    have c_res3_6 : W3.cell? ⟨w.heap.size, 6, none⟩ = some (.slice none 0 0) := row_at r_res3.out 6
    have c_m3_0 : W3.cell? ⟨W2.heap.size, 0, none⟩ = some (.int .i64 0) := row_at r_m3.out 0
    have c_m3_1 : W3.cell? ⟨W2.heap.size, 1, none⟩ = some (.int .i64 0) := row_at r_m3.out 1
    have c_m3_2 : W3.cell? ⟨W2.heap.size, 2, none⟩ = some (.int .i64 0) := row_at r_m3.out 2
    have c_m3_3 : W3.cell? ⟨W2.heap.size, 3, none⟩ = some (.int .i64 0) := row_at r_m3.out 3
    have c_m3_4 : W3.cell? ⟨W2.heap.size, 4, none⟩ = some (.string ⟨#[]⟩) := row_at r_m3.out 4
    have c_m3_5 : W3.cell? ⟨W2.heap.size, 5, none⟩ = some (.int .i64 0) := row_at r_m3.out 5
    have c_m3_6 : W3.cell? ⟨W2.heap.size, 6, none⟩ = some (.slice none 0 0) := row_at r_m3.out 6
    clear r_res2 c_res2_0 c_res2_1 c_res2_2 c_res2_3 c_res2_4 c_res2_5 c_res2_6
    have HN : Hid (G = (ms0, false)) := by show _ = _; rw [← HG.out]; exact getM_no (Or.inl HOR.out)
    go_wp2_with ((try rw [HW3.out]); refine wpList_store_row rfl 28 _ _ rfl (w.heap.size) (mc ms0 (.slice none 0 0)) rfl rfl 28 _ r_res3.out (sizeM _ _) rfl (oneM _ rfl) ?_)
    refine bodyPost_ret (res_row_tmp rfl _ _ (w.heap.size) 28 (mc ms0 (.slice none 0 0)) (0, 0) _ rfl (setRow_heap _ _ _ _ _ (0, 0) r_res3.out) Try.underlying28 rfl (sizeM _ _)) rfl ⟨.slice none 0 0, by rw [HN.out]; rfl, ?_, below_setRow B3.out (by omega) _⟩
    rw [HN.out]
    exact nil9 _ _ _
  · obtain ⟨k, f, t, ⟨s, r⟩, n, x⟩ := m
    simp only at *
    have o_x2 := hox
    clear hox
    have HPL : Hid (place xs = (⟨k, f, t, ⟨s, r⟩, n, x⟩, decide (p = (xs.length : Int)))) := hor
    clear hor
    obtain ⟨ao_x, L_x, cap_x, rfl, hL_x, hM_x⟩ := o_x2.form
    have o_x2 : Hid (Own W2 W1.heap.size W2.heap.size 9 (.slice ao_x L_x cap_x) (ss x)) := o_x2
    clear hL_x hM_x
    have a_res2_0 : ∀ o, (W2.alloc o).cell? ⟨w.heap.size, 0, none⟩ = some (.int .i64 0) := fun o => keepR c_res2_0 ((Below.refl _ _).alloc (Nat.le_refl _) o)
    have a_res2_1 : ∀ o, (W2.alloc o).cell? ⟨w.heap.size, 1, none⟩ = some (.int .i64 0) := fun o => keepR c_res2_1 ((Below.refl _ _).alloc (Nat.le_refl _) o)
    have a_res2_2 : ∀ o, (W2.alloc o).cell? ⟨w.heap.size, 2, none⟩ = some (.int .i64 0) := fun o => keepR c_res2_2 ((Below.refl _ _).alloc (Nat.le_refl _) o)
    have a_res2_3 : ∀ o, (W2.alloc o).cell? ⟨w.heap.size, 3, none⟩ = some (.int .i64 0) := fun o => keepR c_res2_3 ((Below.refl _ _).alloc (Nat.le_refl _) o)
    have a_res2_4 : ∀ o, (W2.alloc o).cell? ⟨w.heap.size, 4, none⟩ = some (.string ⟨#[]⟩) := fun o => keepR c_res2_4 ((Below.refl _ _).alloc (Nat.le_refl _) o)
    have a_res2_5 : ∀ o, (W2.alloc o).cell? ⟨w.heap.size, 5, none⟩ = some (.int .i64 0) := fun o => keepR c_res2_5 ((Below.refl _ _).alloc (Nat.le_refl _) o)
    have a_res2_6 : ∀ o, (W2.alloc o).cell? ⟨w.heap.size, 6, none⟩ = some (.slice none 0 0) := fun o => keepR c_res2_6 ((Below.refl _ _).alloc (Nat.le_refl _) o)
    obtain ⟨W3, HW3, b3, y3, hS3, r_m3⟩ : ∃ X, Hid ((W2.alloc (.cells #[.int .i64 k, .int .i64 f, .int .i64 t, .int .i64 s, .string r, .int .i64 n, .slice ao_x L_x cap_x] 28)) = X) ∧ Below W2.heap.size W2 X ∧ W2.heap.size + 1 ≤ X.heap.size ∧ Hid (X.heap.size = W2.heap.size + 1) ∧ Hid (X.heap[W2.heap.size]? = some (.cells #[.int .i64 k, .int .i64 f, .int .i64 t, .int .i64 s, .string r, .int .i64 n, .slice ao_x L_x cap_x] 28 (0, 0))) := ⟨_, rfl, ((Below.refl _ _).alloc (Nat.le_refl _) _), by simp, by show _ = _; simp, (by show _ = _; exact alloc_nth1_0 W2 _)⟩
    have z3 : W2.heap.size ≤ W3.heap.size := b3.size
    have B3 : Hid (Below w.heap.size w W3) := B2.out.trans (b3.mono B2.out.size)
    have r_res3 : Hid (W3.heap[w.heap.size]? = some (.cells #[.int .i64 0, .int .i64 0, .int .i64 0, .int .i64 0, .string ⟨#[]⟩, .int .i64 0, .slice none 0 0] 28 (0, 0))) := rowKeep r_res2.out b3
    have o_x3 : Hid (Own W3 (W1.heap.size) (W2.heap.size) 9 (.slice ao_x L_x cap_x) (ss x)) := Own.later o_x2.out b3 (by omega)
    have c_res3_0 : W3.cell? ⟨w.heap.size, 0, none⟩ = some (.int .i64 0) := row_at r_res3.out 0
    have c_res3_1 : W3.cell? ⟨w.heap.size, 1, none⟩ = some (.int .i64 0) := row_at r_res3.out 1
    have c_res3_2 : W3.cell? ⟨w.heap.size, 2, none⟩ = some (.int .i64 0) := row_at r_res3.out 2
    have c_res3_3 : W3.cell? ⟨w.heap.size, 3, none⟩ = some (.int .i64 0) := row_at r_res3.out 3
    have c_res3_4 : W3.cell? ⟨w.heap.size, 4, none⟩ = some (.string ⟨#[]⟩) := row_at r_res3.out 4
    have c_res3_5 : W3.cell? ⟨w.heap.size, 5, none⟩ = some (.int .i64 0) := row_at r_res3.out 5
    have c_res3_6 : W3.cell? ⟨w.heap.size, 6, none⟩ = some (.slice none 0 0) := row_at r_res3.out 6
    have c_m3_0 : W3.cell? ⟨W2.heap.size, 0, none⟩ = some (.int .i64 k) := row_at r_m3.out 0
    have c_m3_1 : W3.cell? ⟨W2.heap.size, 1, none⟩ = some (.int .i64 f) := row_at r_m3.out 1
    have c_m3_2 : W3.cell? ⟨W2.heap.size, 2, none⟩ = some (.int .i64 t) := row_at r_m3.out 2
    have c_m3_3 : W3.cell? ⟨W2.heap.size, 3, none⟩ = some (.int .i64 s) := row_at r_m3.out 3
    have c_m3_4 : W3.cell? ⟨W2.heap.size, 4, none⟩ = some (.string r) := row_at r_m3.out 4
    have c_m3_5 : W3.cell? ⟨W2.heap.size, 5, none⟩ = some (.int .i64 n) := row_at r_m3.out 5
    have c_m3_6 : W3.cell? ⟨W2.heap.size, 6, none⟩ = some (.slice ao_x L_x cap_x) := row_at r_m3.out 6
    clear r_res2 c_res2_0 c_res2_1 c_res2_2 c_res2_3 c_res2_4 c_res2_5 c_res2_6 o_x2
    by_cases hend : p = (xs.length : Int)
    · have hb1 : (p != (xs.length : Int)) = false := by rw [hend]; simp
      have hb2 : (p == (xs.length : Int)) = true := by rw [hend]; simp
      have HPL2 : Hid (place xs = (⟨k, f, t, ⟨s, r⟩, n, x⟩, true)) := by show _ = _; rw [HPL.out, hend]; simp
      clear hend HPL
      have q7 : ∀ W v1, Sl W v1 (ss x) → _ := fun W v1 h1 => msgok_impl W v1 ⟨k, f, t, ⟨s, r⟩, n, x⟩ h1 (by simp only; omega) (by simp only; omega)
      obtain ⟨A, hA⟩ : ∃ A, msgOk ⟨k, f, t, ⟨s, r⟩, n, x⟩ = A := ⟨_, rfl⟩
      simp only [hA] at q7
      have HA : Hid (msgOk ⟨k, f, t, ⟨s, r⟩, n, x⟩ = A) := hA
      clear hA
      go_wp2_with fail
      rw [HW3.out]
      clear a_res2_0 a_res2_1 a_res2_2 a_res2_3 a_res2_4 a_res2_5 a_res2_6
      refine (q7 W3 _ o_x3.out.sl).mono ?_
      rintro e W4 ⟨rfl, b4⟩
      have z4 : W3.heap.size ≤ W4.heap.size := b4.size
      have B4 : Hid (Below w.heap.size w W4) := B3.out.trans (b4.mono B3.out.size)
      have r_res4 : Hid (W4.heap[w.heap.size]? = some (.cells #[.int .i64 0, .int .i64 0, .int .i64 0, .int .i64 0, .string ⟨#[]⟩, .int .i64 0, .slice none 0 0] 28 (0, 0))) := rowKeep r_res3.out b4
      have r_m4 : Hid (W4.heap[W2.heap.size]? = some (.cells #[.int .i64 k, .int .i64 f, .int .i64 t, .int .i64 s, .string r, .int .i64 n, .slice ao_x L_x cap_x] 28 (0, 0))) := rowKeep r_m3.out b4
      have o_x4 : Hid (Own W4 (W1.heap.size) (W2.heap.size) 9 (.slice ao_x L_x cap_x) (ss x)) := Own.later o_x3.out b4 (by omega)
      have c_res4_0 : W4.cell? ⟨w.heap.size, 0, none⟩ = some (.int .i64 0) := row_at r_res4.out 0
      have c_res4_1 : W4.cell? ⟨w.heap.size, 1, none⟩ = some (.int .i64 0) := row_at r_res4.out 1
      have c_res4_2 : W4.cell? ⟨w.heap.size, 2, none⟩ = some (.int .i64 0) := row_at r_res4.out 2
      have c_res4_3 : W4.cell? ⟨w.heap.size, 3, none⟩ = some (.int .i64 0) := row_at r_res4.out 3
      have c_res4_4 : W4.cell? ⟨w.heap.size, 4, none⟩ = some (.string ⟨#[]⟩) := row_at r_res4.out 4
      have c_res4_5 : W4.cell? ⟨w.heap.size, 5, none⟩ = some (.int .i64 0) := row_at r_res4.out 5
      have c_res4_6 : W4.cell? ⟨w.heap.size, 6, none⟩ = some (.slice none 0 0) := row_at r_res4.out 6
      have c_m4_0 : W4.cell? ⟨W2.heap.size, 0, none⟩ = some (.int .i64 k) := row_at r_m4.out 0
      have c_m4_1 : W4.cell? ⟨W2.heap.size, 1, none⟩ = some (.int .i64 f) := row_at r_m4.out 1
      have c_m4_2 : W4.cell? ⟨W2.heap.size, 2, none⟩ = some (.int .i64 t) := row_at r_m4.out 2
      have c_m4_3 : W4.cell? ⟨W2.heap.size, 3, none⟩ = some (.int .i64 s) := row_at r_m4.out 3
      have c_m4_4 : W4.cell? ⟨W2.heap.size, 4, none⟩ = some (.string r) := row_at r_m4.out 4
      have c_m4_5 : W4.cell? ⟨W2.heap.size, 5, none⟩ = some (.int .i64 n) := row_at r_m4.out 5
      have c_m4_6 : W4.cell? ⟨W2.heap.size, 6, none⟩ = some (.slice ao_x L_x cap_x) := row_at r_m4.out 6
      clear r_res3 c_res3_0 c_res3_1 c_res3_2 c_res3_3 c_res3_4 c_res3_5 c_res3_6 r_m3 c_m3_0 c_m3_1 c_m3_2 c_m3_3 c_m3_4 c_m3_5 c_m3_6 o_x3
      clear q7
      cases A
      · have HN : Hid (G = (ms0, false)) := by show _ = _; rw [← HG.out]; exact getM_no (Or.inr (by rw [HPL2.out]; exact HA.out))
        go_wp2_with (refine wpList_store_row rfl 28 _ _ rfl (w.heap.size) (mc ms0 (.slice none 0 0)) rfl rfl 28 _ r_res4.out (sizeM _ _) rfl (oneM _ rfl) ?_)
        refine bodyPost_ret (res_row_tmp rfl _ _ (w.heap.size) 28 (mc ms0 (.slice none 0 0)) (0, 0) _ rfl (setRow_heap _ _ _ _ _ (0, 0) r_res4.out) Try.underlying28 rfl (sizeM _ _)) rfl ⟨.slice none 0 0, by rw [HN.out]; rfl, ?_, below_setRow B4.out (by omega) _⟩
        rw [HN.out]
        exact nil9 _ _ _
      · have HN : Hid (G = (⟨k, f, t, ⟨s, r⟩, n, x⟩, true)) := by show _ = _; rw [← HG.out]; exact getM_yes HPL2.out HA.out
        go_wp2_with (first | (refine wpList_load_row rfl 28 _ rfl (W2.heap.size) rfl 28 (mc ⟨k, f, t, ⟨s, r⟩, n, x⟩ (.slice ao_x L_x cap_x)) (0, 0) _ r_m4.out Try.underlying28 rfl (sizeM _ _) ?_) | (refine wpList_store_row rfl 28 _ _ rfl (w.heap.size) (mc ⟨k, f, t, ⟨s, r⟩, n, x⟩ (.slice ao_x L_x cap_x)) rfl rfl 28 _ r_res4.out (sizeM _ _) rfl (oneM _ rfl) ?_))
        refine bodyPost_ret (res_row_tmp rfl _ _ (w.heap.size) 28 (mc ⟨k, f, t, ⟨s, r⟩, n, x⟩ (.slice ao_x L_x cap_x)) (0, 0) _ rfl (setRow_heap _ _ _ _ _ (0, 0) r_res4.out) Try.underlying28 rfl (sizeM _ _)) rfl ⟨.slice ao_x L_x cap_x, by rw [HN.out]; rfl, ?_, below_setRow B4.out (by omega) _⟩
        rw [HN.out]
        exact (Own.setRow o_x4.out _ (by omega)).mono (by omega) (by rw [size_setRow]; omega)
    · have hb2 : (p == (xs.length : Int)) = false := by rw [beq_eq_false_iff_ne]; exact hend
      have hb1 : (p != (xs.length : Int)) = true := by rw [bne, hb2]; rfl
      have HN : Hid (G = (ms0, false)) := by show _ = _; rw [← HG.out]; exact getM_no (Or.inl (by rw [HPL.out]; simp [hend]))
      go_wp2_with ((try rw [HW3.out]); refine wpList_store_row rfl 28 _ _ rfl (w.heap.size) (mc ms0 (.slice none 0 0)) rfl rfl 28 _ r_res3.out (sizeM _ _) rfl (oneM _ rfl) ?_)
      refine bodyPost_ret (res_row_tmp rfl _ _ (w.heap.size) 28 (mc ms0 (.slice none 0 0)) (0, 0) _ rfl (setRow_heap _ _ _ _ _ (0, 0) r_res3.out) Try.underlying28 rfl (sizeM _ _)) rfl ⟨.slice none 0 0, by rw [HN.out]; rfl, ?_, below_setRow B3.out (by omega) _⟩
      rw [HN.out]
      exact nil9 _ _ _

end Go.Proofs.Yteemblfjghnooaa.Wd
