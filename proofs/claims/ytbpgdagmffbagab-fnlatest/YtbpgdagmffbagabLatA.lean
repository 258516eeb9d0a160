/- Chapter 3: lists of versions: what a row of them holds; a drawn list. -/
import Derived.Test.YtbpgdagmffbagabDraw5
namespace Go.Proofs.Ytbpgdagmffbagab.Ver
open Go.RowKit Go.Proofs.Ytbpgdagmffbagab.Mem Go.Proofs.Ytbpgdagmffbagab.Laws Go.Proofs.Ytbpgdagmffbagab.Bytes Go.Proofs.Ytbpgdagmffbagab.Sha Go.Proofs.Ytbpgdagmffbagab.Draw
set_option linter.unusedVariables false
set_option linter.unusedSimpArgs false

/-- versions as cells, four each -/
def vs : List (Int × Int × Int × ByteArray) → List Value
  | [] => []
  | q :: r => .int .i64 q.1 :: .int .i64 q.2.1 :: .int .i64 q.2.2.1 :: .string q.2.2.2 :: vs r
theorem vs_len : ∀ l, (vs l).length = l.length * 4 := by
  intro l
  induction l with
  | nil => rfl
  | cons q r ih => simp [vs, ih]; omega
theorem vs_app (l m : List (Int × Int × Int × ByteArray)) : vs (l ++ m) = vs l ++ vs m := by
  induction l with
  | nil => rfl
  | cons q r ih => simp [vs, ih]
theorem vs_one : ∀ l, ∀ u ∈ vs l, u.oneCell' = true := by
  intro l
  induction l with
  | nil => intro u hu; cases hu
  | cons q r ih =>
    intro u hu
    simp only [vs, List.mem_cons] at hu
    rcases hu with rfl | rfl | rfl | rfl | hu
    · rfl
    · rfl
    · rfl
    · rfl
    · exact ih u hu
theorem vs_get : ∀ (l : List (Int × Int × Int × ByteArray)) (k : Nat) (q : Int × Int × Int × ByteArray), l[k]? = some q →
    (vs l)[4 * k]? = some (.int .i64 q.1) ∧ (vs l)[4 * k + 1]? = some (.int .i64 q.2.1) ∧ (vs l)[4 * k + 2]? = some (.int .i64 q.2.2.1) ∧ (vs l)[4 * k + 3]? = some (.string q.2.2.2) := by
  intro l
  induction l with
  | nil => intro k q h; simp at h
  | cons x r ih =>
    intro k q h
    cases k with
    | zero => simp at h; subst h; exact ⟨rfl, rfl, rfl, rfl⟩
    | succ k =>
      have := ih k q (by simpa using h)
      have e : 4 * (k + 1) = 4 * k + 4 := by omega
      rw [e]
      exact this

/-- block g holds the versions l, from its beginning on -/
def Cv (w : World) (g : Nat) (l : List (Int × Int × Int × ByteArray)) : Prop :=
  ∀ (k : Nat) (q : Int × Int × Int × ByteArray), l[k]? = some q → w.cell? ⟨g, 4 * k, none⟩ = some (.int .i64 q.1) ∧ w.cell? ⟨g, 4 * k + 1, none⟩ = some (.int .i64 q.2.1) ∧ w.cell? ⟨g, 4 * k + 2, none⟩ = some (.int .i64 q.2.2.1) ∧ w.cell? ⟨g, 4 * k + 3, none⟩ = some (.string q.2.2.2)
theorem Cv.later {w w' : World} {g : Nat} {l : List (Int × Int × Int × ByteArray)} (h : Cv w g l) (hb : Below w.heap.size w w') : Cv w' g l := by
  intro k q hq
  obtain ⟨h1, h2, h3, h4⟩ := h k q hq
  have hl : g < w.heap.size := World.block_lt_of_cell? w _ h1
  exact ⟨(hb.cell (p := ⟨g, 4 * k, none⟩) hl).trans h1, (hb.cell (p := ⟨g, 4 * k + 1, none⟩) hl).trans h2, (hb.cell (p := ⟨g, 4 * k + 2, none⟩) hl).trans h3, (hb.cell (p := ⟨g, 4 * k + 3, none⟩) hl).trans h4⟩

/-- v owns the versions l -/
def Ov (w : World) (lo hi : Nat) (v : Value) (l : List (Int × Int × Int × ByteArray)) : Prop :=
  w.ownsRow lo 25 4 v l.length (vs l) ∧ (∃ g cap, v = .slice (some ⟨g, 0, none⟩) l.length cap ∧ l.length ≤ cap ∧ g < hi)
theorem Ov.cv {w : World} {lo hi : Nat} {v : Value} {l : List (Int × Int × Int × ByteArray)} (h : Ov w lo hi v l) : ∃ g cap, v = .slice (some ⟨g, 0, none⟩) l.length cap ∧ l.length ≤ cap ∧ g < hi ∧ Cv w g l := by
  obtain ⟨h1, g, cap, rfl, hc, hg⟩ := h
  refine ⟨g, cap, rfl, hc, hg, fun k q hq => ?_⟩
  have hk : k < l.length := (List.getElem?_eq_some_iff.1 hq).1
  obtain ⟨a1, a2, a3, a4⟩ := vs_get l k q hq
  exact ⟨by rw [h1.cellAt _ (by omega)]; exact a1, by rw [h1.cellAt _ (by omega)]; exact a2, by rw [h1.cellAt _ (by omega)]; exact a3, by rw [h1.cellAt _ (by omega)]; exact a4⟩
theorem Ov.keep {w w' : World} {lo hi : Nat} {v : Value} {l : List (Int × Int × Int × ByteArray)} (h : Ov w lo hi v l) (hk : ∀ k, lo ≤ k → k < hi → w'.heap[k]? = w.heap[k]?) : Ov w' lo hi v l := by
  obtain ⟨⟨h1, h2⟩, g, cap, rfl, hc, hg⟩ := h
  refine ⟨⟨h1, ?_⟩, g, cap, rfl, hc, hg⟩
  rcases h2 with h2 | ⟨g', cap', cur, he, hb, hh, r⟩
  · exact .inl h2
  · have : g' = g := by simp at he; exact he.1.symm
    subst this
    exact .inr ⟨g', cap', cur, he, hb, by rw [hk g' hb hg]; exact hh, r⟩
theorem infoVv : (Try.prog.info? 25).map (fun i => (i.zero, i.size, i.bytes)) = some (some (.agg #[.int .i64 0, .int .i64 0, .int .i64 0, .string ⟨#[]⟩]), 4, 40) := by kernel_rfl

set_option maxRecDepth 1000000 in
set_option maxHeartbeats 1000000 in
theorem dlat_any (w : World) (vb : Value) (xs : List Int) (hs : Sl w vb (bs xs)) (hby : Byt xs) (hx : xs.length ≤ 140737488355328) :
    Calls Try.prog 9 #[vb] w fun e w' => ∃ (g cap : Nat) (l : List (Int × Int × Int × ByteArray)), e = .returned (.slice (some ⟨g, 0, none⟩) l.length cap) ∧ l.length ≤ cap ∧ l.length ≤ 5 ∧ (∀ q ∈ l, Dv q.1 q.2.1 q.2.2.1 q.2.2.2) ∧ Cv w' g l ∧ Below w.heap.size w w' := by
  obtain ⟨i0, hi, hz0, hz1, hz2⟩ := info_parts infoVv
  go_enter Try.func9, Try.ntmps9
  go_wp2_with fail
  refine (new_any w vb xs hs hby hx).mono ?_
  rintro e w1 ⟨rfl, d1⟩
  have gl1 := d1.cur.lt
  have hd0 : ∀ o, Drawn w w1 w.heap.size vb xs (w1.alloc o) := fun o => (Drawn.refl d1.below d1.cur).on (Nat.le_refl _) gl1 ((Below.refl _ _).alloc (Nat.le_refl _) _)
  have ho0 : Ov (w1.alloc (.cells #[] 25)) w1.heap.size (w1.alloc (.cells #[] 25)).heap.size (.slice (some ⟨w1.heap.size, 0, none⟩) 0 0) [] :=
    ⟨World.ownsRow_lit w1 #[] 0 (Nat.le_refl _) (Nat.zero_le _) rfl, w1.heap.size, 0, rfl, Nat.le_refl _, by simp⟩
  clear d1
  go_wp2_with fail
  refine (below_any w _ w.heap.size vb xs 6 (by omega) (by omega) hs hby hx (hd0 _).below (Nat.le_refl _) (hd0 _).cur).mono ?_
  rintro e w2 ⟨x, rfl, x0, x1, d2⟩
  obtain ⟨n, rfl⟩ := Int.eq_ofNat_of_zero_le x0
  have ho1 : Ov w2 w1.heap.size w2.heap.size (.slice (some ⟨w1.heap.size, 0, none⟩) 0 0) [] := by
    obtain ⟨h1, g, cap, he, hc, hg⟩ := ho0.keep (fun k h1 h2 => d2.apart.block k (by exact h2) (by omega))
    exact ⟨h1, g, cap, he, hc, Nat.lt_of_lt_of_le hg d2.apart.size⟩
  have hd1 := (hd0 _).and d2
  clear ho0 hd0 d2
  go_wp2
  go_loopw [4, 5] (fun out i wr => ∃ (k : Nat) (l : List (Int × Int × Int × ByteArray)), i = .int .i64 k ∧ l.length + k ≤ 5 ∧ (∀ q ∈ l, Dv q.1 q.2.1 q.2.2.1 q.2.2.2) ∧ Ov wr w1.heap.size wr.heap.size out l ∧ Drawn w w1 w.heap.size vb xs wr) (fun _ i _ => (intOf i).toNat)
  case atStart => exact ⟨n, [], rfl, by simp; omega, fun q hq => (by cases hq), ho1, hd1⟩
  case round =>
    obtain ⟨k, l, rfl, hll, hls, ho0, hd⟩ := hrel
    obtain ⟨hown0, g3, cap3, rfl, hc3, hg3⟩ := ho0
    have ho : Ov wr w1.heap.size wr.heap.size (.slice (some ⟨g3, 0, none⟩) l.length cap3) l := ⟨hown0, g3, cap3, rfl, hc3, hg3⟩
    clear hown0
    have HY : Hid (∀ q ∈ l, Dv q.1 q.2.1 q.2.2.1 q.2.2.2) := hls
    clear hls ho1 hd1
    have s0 := hd.apart.size
    by_cases hlt : 0 < k
    · go_wp2_with fail
      refine (draw_agg w wr w.heap.size vb xs hs hby hx hd.below (Nat.le_refl _) hd.cur).mono ?_
      rintro e w3 ⟨a, b, c, p, rfl, D3, d3⟩
      have ho3 : Ov w3 w1.heap.size w3.heap.size (.slice (some ⟨g3, 0, none⟩) l.length cap3) l := by
        obtain ⟨h1, g, cap, he, hc, hg⟩ := ho.keep (fun k h1 h2 => d3.apart.block k (by exact h2) (by omega))
        exact ⟨h1, g, cap, he, hc, Nat.lt_of_lt_of_le hg d3.apart.size⟩
      have hd3 := hd.and d3
      have s3 := hd3.apart.size
      have hown : (w3.alloc (.cells #[.int .i64 a, .int .i64 b, .int .i64 c, .string p] 25)).ownsRow w1.heap.size 25 4 (.slice (some ⟨g3, 0, none⟩) l.length cap3) l.length (vs l) := ho3.1.alloc _
      have hnews : ∀ j u, (vs [(a, b, c, p)])[j]? = some u → (w3.alloc (.cells #[.int .i64 a, .int .i64 b, .int .i64 c, .string p] 25)).cell? ((⟨w3.heap.size, 0, none⟩ : Addr).add j) = some u := by
        intro j u hj
        rw [Addr.add_lit, Nat.zero_add, cell_of_row _ w3.heap.size j #[.int .i64 a, .int .i64 b, .int .i64 c, .string p] 25 (0, 0) (heap_alloc_new w3 _)]
        simpa [vs] using hj
      have c2 : l.length + 1 ≤ maxLen := by unfold maxLen; omega
      have c3 : (l.length + 1) * 40 ≤ 140737488355328 := by omega
      have c4 : w1.heap.size ≤ (w3.alloc (.cells #[.int .i64 a, .int .i64 b, .int .i64 c, .string p] 25)).heap.size := by simp; omega
      have hne3 := ho3.1.lt
      have HL3 : Hid (∀ k, (Value.slice (some ⟨g3, 0, none⟩) l.length cap3).ownBlock = some k → w1.heap.size ≤ k ∧ k < w3.heap.size) := hne3
      clear hne3
      have HA3 : Hid (Drawn w w1 w.heap.size vb xs w3) := hd3
      clear ho hd d3 hd3 ho3
      go_wp2_with (at_builtin; go_must (refine wpList_append_own _ rfl (.tmp 15) (.tmp 18) 29 rfl w1.heap.size 25 i0 (.agg #[.int .i64 0, .int .i64 0, .int .i64 0, .string ⟨#[]⟩]) 4 40 Try.underlying29 hi hz0 hz1 hz2 rfl (by decide) _ l.length (vs l) rfl hown ⟨w3.heap.size, 0, none⟩ 1 1 (vs [(a, b, c, p)]) rfl rfl hnews (vs_one _) c2 c3 c4 ?_); intro v5 w5 ho5 hg5 hn5)
      have hne5 : ¬ v5 = .slice none 0 0 := by
        intro h
        rw [h] at hn5
        simp at hn5
      have hgb : Below w1.heap.size (w3.alloc (.cells #[.int .i64 a, .int .i64 b, .int .i64 c, .string p] 25)) w5 := (Below.refl _ _).grown hg5 c4 (fun k hk => (HL3.out k hk).1)
      have hd5 : Drawn w w1 w.heap.size vb xs w5 := HA3.out.on (Nat.le_refl _) gl1 (((Below.refl _ _).alloc s3 _).trans hgb)
      have ho5' : Ov w5 w1.heap.size w5.heap.size v5 (l ++ [(a, b, c, p)]) := by
        have h1 : w5.ownsRow w1.heap.size 25 4 v5 (l ++ [(a, b, c, p)]).length (vs (l ++ [(a, b, c, p)])) := by
          rw [vs_app, List.length_append]
          exact ho5
        refine ⟨h1, ?_⟩
        have h2 := h1.lt
        rcases h1.2 with ⟨h3, _⟩ | ⟨g, cap, cur, rfl, hb, hg, hnc, hcm, hcs, ht⟩
        · exact absurd h3 hne5
        · exact ⟨g, cap, rfl, hnc, (h2 g rfl).2⟩
      have HN : Hid (∀ q ∈ l ++ [(a, b, c, p)], Dv q.1 q.2.1 q.2.2.1 q.2.2.2) := by
        intro q hq
        rcases List.mem_append.1 hq with hq | hq
        · exact HY.out q hq
        · rw [List.mem_singleton] at hq; rw [hq]; exact D3
      go_roundw
      case rel => exact ⟨k - 1, l ++ [(a, b, c, p)], by go_num, by simp; omega, HN.out, ho5', hd5⟩
      case measure => simp [intOf]; omega
    · obtain ⟨g, cap, he, hc, hg, hcv⟩ := ho.cv
      have hgg : g = g3 ∧ cap = cap3 := by simp at he; exact ⟨he.1.symm, he.2.symm⟩
      obtain ⟨rfl, rfl⟩ := hgg
      have hb := hd.below
      clear he ho hd
      go_wp2
      go_ret
      exact ⟨g, cap, l, rfl, hc, by omega, HY.out, hcv, hb⟩

end Go.Proofs.Ytbpgdagmffbagab.Ver
