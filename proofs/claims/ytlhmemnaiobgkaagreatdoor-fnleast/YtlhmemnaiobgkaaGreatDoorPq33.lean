/- Texts in one: LatB, SeI, Mo1, Mo2, Mo3. -/
import Derived.Test.YtlhmemnaiobgkaaGreatDoorPq32
import Derived.Test.YtlhmemnaiobgkaaGreatDoorPq25
import Derived.Test.YtlhmemnaiobgkaaGreatDoorPq12
import Derived.Test.YtlhmemnaiobgkaaGreatDoorItr
import Derived.MapKept
/- Chapter 3, the landed code: the latest of a list. -/
namespace Go.Proofs.YtlhmemnaiobgkaaGreatDoor.Ver
open Go.RowKit Go.Proofs.YtlhmemnaiobgkaaGreatDoor.Mem Go.Proofs.YtlhmemnaiobgkaaGreatDoor.Laws Go.Proofs.YtlhmemnaiobgkaaGreatDoor.Bytes Go.Proofs.YtlhmemnaiobgkaaGreatDoor.Sha
set_option linter.unusedVariables false
set_option linter.unusedSimpArgs false

def lessQ (q r : Int × Int × Int × ByteArray) : Bool := decide (cmpV q.1 q.2.1 q.2.2.1 q.2.2.2 r.1 r.2.1 r.2.2.1 r.2.2.2 < 0)
def latF (q : Int × Int × Int × ByteArray) (l : List (Int × Int × Int × ByteArray)) : Int × Int × Int × ByteArray := l.foldl (fun b v => if lessQ b v = true then v else b) q

set_option maxRecDepth 1000000 in
set_option maxHeartbeats 1000000 in
theorem lat_nil (w : World) (g cap : Nat) : Calls Tryz.prog 23 #[.slice (some ⟨g, 0, none⟩) 0 cap] w fun e w' => e = .returned (.agg #[.int .i64 0, .int .i64 0, .int .i64 0, .string ⟨#[]⟩]) ∧ Below w.heap.size w w' := by
  have X0 : Vr (w.alloc (.cells (vc 0 0 0 ⟨#[]⟩) 32)) w.heap.size 0 0 0 ⟨#[]⟩ := heap_alloc_new w _
  have hb : Below w.heap.size w (w.alloc (.cells (vc 0 0 0 ⟨#[]⟩) 32)) := (Below.refl _ _).alloc (Nat.le_refl _) _
  go_enter Tryz.func23, Tryz.ntmps23
  go_wp2_with fail
  exact bodyPost_ret (v := .agg (vc 0 0 0 ⟨#[]⟩)) (results_cell_row rfl _ _ w.heap.size 32 _ (0, 0) _ rfl X0 Tryz.underlying32 rfl (sizeV 0 0 0 ⟨#[]⟩)) rfl ⟨rfl, hb⟩

set_option maxRecDepth 1000000 in
set_option maxHeartbeats 1000000 in
theorem lat_impl (w : World) (g cap : Nat) (q : Int × Int × Int × ByteArray) (l : List (Int × Int × Int × ByteArray)) (hcv : Cv w g (q :: l)) (hc : l.length + 1 ≤ cap) (hl : l.length ≤ 1000) (hz : ∀ x ∈ q :: l, x.2.2.2.size ≤ 100) :
    Calls Tryz.prog 23 #[.slice (some ⟨g, 0, none⟩) (l.length + 1) cap] w fun e w' => e = .returned (verQ (latF q l)) ∧ Below w.heap.size w w' := by
  obtain ⟨a, b, c, p⟩ := q
  have HZ : Hid (∀ x ∈ (a, b, c, p) :: l, x.2.2.2.size ≤ 100) := hz
  obtain ⟨k0, k1, k2, k3⟩ := hcv 0 (a, b, c, p) rfl
  simp only [Nat.mul_zero, Nat.zero_add] at k0 k1 k2 k3
  have hgl : g < w.heap.size := World.block_lt_of_cell? w _ k0
  have HCv : Hid (Cv w g ((a, b, c, p) :: l)) := hcv
  clear hz hcv
  have m0 : (((l.length : Int) + 1) == 0) = false := by simp; omega
  have HA0 : Hid (Vr ((w.alloc (.cells #[.int .i64 0, .int .i64 0, .int .i64 0, .string ⟨#[]⟩] 32)).alloc (.cells #[.int .i64 a, .int .i64 b, .int .i64 c, .string p] 32)) (w.heap.size + 1) a b c p) := heap_alloc2_new w _ _
  have HA1 : Hid (Vr ((w.alloc (.cells #[.int .i64 0, .int .i64 0, .int .i64 0, .string ⟨#[]⟩] 32)).alloc (.cells #[.int .i64 a, .int .i64 b, .int .i64 c, .string p] 32)) w.heap.size 0 0 0 ⟨#[]⟩) := heap_alloc2_old w _ _
  have HAB : Hid (Below w.heap.size w ((w.alloc (.cells #[.int .i64 0, .int .i64 0, .int .i64 0, .string ⟨#[]⟩] 32)).alloc (.cells #[.int .i64 a, .int .i64 b, .int .i64 c, .string p] 32))) := ((Below.refl _ _).alloc (Nat.le_refl _) _).alloc (by simp) _
  have hpz : p.size ≤ 100 := HZ.out (a, b, c, p) (by simp)
  by_cases hcap : cap = 1
  · have hl0 : ¬ 0 < l.length := by omega
    subst hcap
    go_enter Tryz.func23, Tryz.ntmps23
    go_wp2_with fail
    go_loopw [16] (fun i wr => ∃ (k : Nat) (x y z : Int) (u : ByteArray), k ≤ l.length ∧ i = .int .i64 (k : Int) ∧ Hid ((x, y, z, u) = latF (a, b, c, p) (l.take k)) ∧ u.size ≤ 100 ∧ Vr wr (w.heap.size + 1) x y z u ∧ Vr wr w.heap.size 0 0 0 ⟨#[]⟩ ∧ Below w.heap.size w wr) (fun i _ => l.length - (intOf i).toNat)
    case atStart => exact ⟨0, a, b, c, p, Nat.zero_le _, rfl, rfl, hpz, HA0.out, HA1.out, HAB.out⟩
    case round =>
      obtain ⟨k, x, y, z, u, hk, rfl, HL, huz, hV, hX, hb⟩ := hrel
      by_cases hlt : k < l.length
      · exfalso; omega
      · have HF : Hid ((x, y, z, u) = latF (a, b, c, p) l) := by
          show _ = _
          have h := HL.out
          rw [List.take_of_length_le (by omega)] at h
          exact h
        go_wp2_with (first | (refine wpList_load_row rfl 32 _ rfl (w.heap.size + 1) rfl 32 (vc x y z u) (0, 0) _ hV Tryz.underlying32 rfl (sizeV x y z u) ?_) | (refine wpList_store_row rfl 32 _ _ rfl w.heap.size (vc x y z u) rfl rfl 32 (vc 0 0 0 ⟨#[]⟩) hX (sizeV x y z u) rfl (oneV x y z u) ?_))
        exact bodyPost_ret (v := .agg (vc x y z u)) (results_cell_row rfl _ _ w.heap.size 32 _ (0, 0) _ rfl (Vr.row hX x y z u) Tryz.underlying32 rfl (sizeV x y z u)) rfl ⟨by rw [← HF.out]; rfl, below_setRow hb (Nat.le_refl _) _⟩
  · go_enter Tryz.func23, Tryz.ntmps23
    go_wp2_with fail
    go_loopw [16] (fun i wr => ∃ (k : Nat) (x y z : Int) (u : ByteArray), k ≤ l.length ∧ i = .int .i64 (k : Int) ∧ Hid ((x, y, z, u) = latF (a, b, c, p) (l.take k)) ∧ u.size ≤ 100 ∧ Vr wr (w.heap.size + 1) x y z u ∧ Vr wr w.heap.size 0 0 0 ⟨#[]⟩ ∧ Below w.heap.size w wr) (fun i _ => l.length - (intOf i).toNat)
    case atStart => exact ⟨0, a, b, c, p, Nat.zero_le _, rfl, rfl, hpz, HA0.out, HA1.out, HAB.out⟩
    case round =>
      obtain ⟨k, x, y, z, u, hk, rfl, HL, huz, hV, hX, hb⟩ := hrel
      by_cases hlt : k < l.length
      · obtain ⟨⟨a', b', c', p'⟩, hq⟩ : ∃ q, l[k]? = some q := ⟨l[k], by simp [hlt]⟩
        obtain ⟨i0, i1, i2, i3⟩ := HCv.out (k + 1) (a', b', c', p') (by simpa using hq)
        have e4 : 4 * (k + 1) = 4 + k * 4 := by omega
        rw [e4] at i0 i1 i2 i3
        have j0 := (hb.cell (p := ⟨g, 4 + k * 4, none⟩) hgl).trans i0
        have j1 := (hb.cell (p := ⟨g, 4 + k * 4 + 1, none⟩) hgl).trans i1
        have j2 := (hb.cell (p := ⟨g, 4 + k * 4 + 2, none⟩) hgl).trans i2
        have j3 := (hb.cell (p := ⟨g, 4 + k * 4 + 3, none⟩) hgl).trans i3
        have hpz' : p'.size ≤ 100 := HZ.out (a', b', c', p') (List.mem_cons_of_mem _ (List.mem_of_getElem? hq))
        have V3 : Vr (wr.alloc (.cells #[.int .i64 a', .int .i64 b', .int .i64 c', .string p'] 32)) (w.heap.size + 1) x y z u := Vr.same hV ((Below.refl _ _).alloc (Nat.le_refl _) _)
        have V5 : Vr (wr.alloc (.cells #[.int .i64 a', .int .i64 b', .int .i64 c', .string p'] 32)) wr.heap.size a' b' c' p' := heap_alloc_new wr _
        have HX5 : Hid (Vr (wr.alloc (.cells #[.int .i64 a', .int .i64 b', .int .i64 c', .string p'] 32)) w.heap.size 0 0 0 ⟨#[]⟩) := Vr.same hX ((Below.refl _ _).alloc (Nat.le_refl _) _)
        have HB5 : Hid (Below w.heap.size w (wr.alloc (.cells #[.int .i64 a', .int .i64 b', .int .i64 c', .string p'] 32))) := hb.alloc hb.size _
        have hsz := hb.size
        have hn1 := hV.lt
        have HF : Hid (latF (a, b, c, p) (l.take (k + 1)) = if lessQ (x, y, z, u) (a', b', c', p') = true then (a', b', c', p') else (x, y, z, u)) := by
          show _ = _
          rw [HL.out]
          unfold latF
          rw [List.take_succ_eq_append_getElem hlt, List.foldl_append]
          have : l[k] = (a', b', c', p') := by rw [List.getElem?_eq_getElem hlt] at hq; simpa using hq
          rw [this]
          rfl
        have qq := less_impl (wr.alloc (.cells #[.int .i64 a', .int .i64 b', .int .i64 c', .string p'] 32)) x y z u a' b' c' p' (by omega) (by omega)
        obtain ⟨r, hr⟩ : ∃ r, decide (cmpV x y z u a' b' c' p' < 0) = r := ⟨_, rfl⟩
        have HR : Hid (lessQ (x, y, z, u) (a', b', c', p') = r) := hr
        rw [hr] at qq
        unfold ver at qq
        clear hr hq i0 i1 i2 i3 e4 hV hX hb
        go_wp2_with (first | (refine wpList_load_row rfl 32 _ rfl (w.heap.size + 1) rfl 32 (vc x y z u) (0, 0) _ V3 Tryz.underlying32 rfl (sizeV x y z u) ?_) | (refine wpList_load_row rfl 32 _ rfl wr.heap.size rfl 32 (vc a' b' c' p') (0, 0) _ V5 Tryz.underlying32 rfl (sizeV a' b' c' p') ?_))
        refine qq.mono ?_
        rintro e w6 ⟨rfl, b6⟩
        have V6 : Vr w6 (w.heap.size + 1) x y z u := Vr.same V3 b6
        have V7 : Vr w6 wr.heap.size a' b' c' p' := Vr.same V5 b6
        have X6 : Vr w6 w.heap.size 0 0 0 ⟨#[]⟩ := Vr.same HX5.out b6
        have B6 : Below w.heap.size w w6 := HB5.out.trans (b6.mono HB5.out.size)
        clear V3 V5 HX5 HB5 b6 qq j0 j1 j2 j3
        cases r
        · go_wp2_with fail
          go_roundw
          case rel => exact ⟨k + 1, x, y, z, u, by omega, by go_num, by show _ = _; rw [HF.out, HR.out]; rfl, huz, V6, X6, B6⟩
          case measure => simp [intOf]; omega
        · go_wp2_with (first | (refine wpList_load_row rfl 32 _ rfl wr.heap.size rfl 32 (vc a' b' c' p') (0, 0) _ V7 Tryz.underlying32 rfl (sizeV a' b' c' p') ?_) | (refine wpList_store_row rfl 32 _ _ rfl (w.heap.size + 1) (vc a' b' c' p') rfl rfl 32 (vc x y z u) V6 (sizeV a' b' c' p') rfl (oneV a' b' c' p') ?_))
          go_roundw
          case rel => exact ⟨k + 1, a', b', c', p', by omega, by go_num, by show _ = _; rw [HF.out, HR.out]; rfl, hpz', Vr.row V6 a' b' c' p', Vr.rowOther X6 (by omega) _, below_setRow B6 (by omega) _⟩
          case measure => simp [intOf]; omega
      · have HF : Hid ((x, y, z, u) = latF (a, b, c, p) l) := by
          show _ = _
          have h := HL.out
          rw [List.take_of_length_le (by omega)] at h
          exact h
        go_wp2_with (first | (refine wpList_load_row rfl 32 _ rfl (w.heap.size + 1) rfl 32 (vc x y z u) (0, 0) _ hV Tryz.underlying32 rfl (sizeV x y z u) ?_) | (refine wpList_store_row rfl 32 _ _ rfl w.heap.size (vc x y z u) rfl rfl 32 (vc 0 0 0 ⟨#[]⟩) hX (sizeV x y z u) rfl (oneV x y z u) ?_))
        exact bodyPost_ret (v := .agg (vc x y z u)) (results_cell_row rfl _ _ w.heap.size 32 _ (0, 0) _ rfl (Vr.row hX x y z u) Tryz.underlying32 rfl (sizeV x y z u)) rfl ⟨by rw [← HF.out]; rfl, below_setRow hb (Nat.le_refl _) _⟩

end Go.Proofs.YtlhmemnaiobgkaaGreatDoor.Ver

/- Chapter 16: the latest of each path by groups, as the landed code gathers them; plain facts. -/
namespace Go.Proofs.YtlhmemnaiobgkaaGreatDoor.Se
open Go.RowKit Go.Proofs.YtlhmemnaiobgkaaGreatDoor.Mem Go.Proofs.YtlhmemnaiobgkaaGreatDoor.Laws Go.Proofs.YtlhmemnaiobgkaaGreatDoor.Ver Go.Proofs.YtlhmemnaiobgkaaGreatDoor.Ent Go.Proofs.YtlhmemnaiobgkaaGreatDoor.Fe
set_option linter.unusedVariables false
set_option linter.unusedSimpArgs false

/-- the best of a path so far -/
def stp (p : ByteArray) (o : Option Nd) (n : Nd) : Option Nd := if eqT n.path p = true then (match o with | none => some n | some b => if lv b n = true then some n else some b) else o
def bst (p : ByteArray) (row : List Nd) : Option Nd := row.foldl (stp p) none
theorem bst_snoc (p : ByteArray) (row : List Nd) (n : Nd) : bst p (row ++ [n]) = stp p (bst p row) n := by unfold bst; rw [List.foldl_append]; rfl
theorem snoc_ind {α : Type} {P : List α → Prop} (h0 : P []) (h1 : ∀ l x, P l → P (l ++ [x])) (l : List α) : P l := by
  have : ∀ r : List α, P r.reverse := by
    intro r
    induction r with
    | nil => exact h0
    | cons x r ih => rw [List.reverse_cons]; exact h1 _ _ ih
  have := this l.reverse
  rwa [List.reverse_reverse] at this
theorem bst_path {p : ByteArray} (row : List Nd) : ∀ x, bst p row = some x → x.path = p ∧ x ∈ row := by
  refine snoc_ind (P := fun row => ∀ x, bst p row = some x → x.path = p ∧ x ∈ row) ?_ ?_ row
  · intro x h; cases h
  · intro l n ih x h
    rw [bst_snoc] at h
    unfold stp at h
    split at h
    · rename_i he
      have he := (eqT_same _ _).1 he
      cases hb : bst p l with
      | none =>
        rw [hb] at h
        simp only [Option.some.injEq] at h
        subst h
        exact ⟨he, by simp⟩
      | some b =>
        rw [hb] at h
        simp only at h
        split at h
        · simp only [Option.some.injEq] at h; subst h; exact ⟨he, by simp⟩
        · simp only [Option.some.injEq] at h; subst h; exact ⟨(ih _ hb).1, by simp [(ih _ hb).2]⟩
    · exact ⟨(ih _ h).1, by simp [(ih _ h).2]⟩
theorem max_bst {row out : List Nd} {n : Nd} (hu : Up out) (hm : ∀ x, x ∈ out ↔ bst x.path row = some x) : Up (max16 out n) ∧ ∀ x, x ∈ max16 out n ↔ bst x.path (row ++ [n]) = some x := by
  unfold max16
  cases ha : out.any (cov1 n) with
  | true =>
    rw [if_pos rfl]
    obtain ⟨y, hy, hc⟩ := List.any_eq_true.1 ha
    obtain ⟨h1, h2⟩ := cov1_iff.1 hc
    refine ⟨hu, fun x => ?_⟩
    rw [hm, bst_snoc]
    unfold stp
    by_cases hp : eqT n.path x.path = true
    · rw [if_pos hp]
      have hp' := (eqT_same _ _).1 hp
      have hb := (hm y).1 hy
      rw [h1, hp'] at hb
      rw [hb]
      simp [h2]
    · rw [if_neg hp]
  | false =>
    rw [if_neg (by simp)]
    refine ⟨hu.ins n, fun x => ?_⟩
    rw [ins_iff, bst_snoc]
    unfold stp
    by_cases hp : eqT n.path x.path = true
    · have hp' := (eqT_same _ _).1 hp
      rw [if_pos hp]
      have e : (match bst x.path row with | none => some n | some b => if lv b n = true then some n else some b) = some n := by
        cases hb : bst x.path row with
        | none => rfl
        | some b =>
          obtain ⟨h1, h2⟩ := bst_path row b hb
          have hbo : b ∈ out := (hm b).2 (by rw [h1]; exact hb)
          have h3 := List.any_eq_false.1 ha b hbo
          have h4 : lv b n = true := by
            cases h5 : lv b n with
            | true => rfl
            | false => exact absurd (cov1_iff.2 ⟨by rw [h1, hp'], h5⟩) h3
          simp [h4]
      rw [e]
      constructor
      · rintro (rfl | ⟨_, h⟩)
        · rfl
        · exact absurd hp'.symm h
      · intro h
        simp only [Option.some.injEq] at h
        exact .inl h.symm
    · rw [if_neg hp]
      have hp' : n.path ≠ x.path := fun h => hp ((eqT_same _ _).2 h)
      constructor
      · rintro (rfl | ⟨h, _⟩)
        · exact absurd rfl hp'
        · exact (hm x).1 h
      · intro h
        exact .inr ⟨(hm x).2 h, fun h9 => hp' h9.symm⟩
theorem sel_bst (row : List Nd) : Up (sel16 row) ∧ ∀ x, x ∈ sel16 row ↔ bst x.path row = some x := by
  refine snoc_ind (P := fun row => Up (sel16 row) ∧ ∀ x, x ∈ sel16 row ↔ bst x.path row = some x) ?_ ?_ row
  · refine ⟨List.Pairwise.nil, fun x => ?_⟩
    show x ∈ [] ↔ (none : Option Nd) = some x
    simp
  · intro l n ih
    have := max_bst (n := n) ih.1 ih.2
    unfold sel16 at this ⊢
    rw [List.foldl_append]
    exact this
/-- the version alone; a need of a path and a version -/
abbrev Q4 := Int × Int × Int × ByteArray
def ver4 (n : Nd) : Q4 := (n.a, n.b, n.c, n.pre)
def mk4 (p : ByteArray) (q : Q4) : Nd := ⟨p, q.1, q.2.1, q.2.2.1, q.2.2.2⟩
def okN (n : Nd) : Prop := okV n.a n.b n.c n.pre = true
/-- the versions of a path -/
def vers (p : ByteArray) (row : List Nd) : List Q4 := (row.filter fun n => eqT n.path p).map ver4
theorem vers_snoc (p : ByteArray) (row : List Nd) (n : Nd) : vers p (row ++ [n]) = vers p row ++ (if eqT n.path p = true then [ver4 n] else []) := by
  unfold vers
  rw [List.filter_append, List.map_append]
  congr 1
  by_cases h : eqT n.path p = true
  · rw [if_pos h]; simp [h]
  · rw [if_neg h]; simp [h]
theorem vers_mem {p : ByteArray} {row : List Nd} {q : Q4} (h : q ∈ vers p row) : ∃ n ∈ row, n.path = p ∧ ver4 n = q := by
  unfold vers at h
  obtain ⟨n, h1, h2⟩ := List.mem_map.1 h
  obtain ⟨h3, h4⟩ := List.mem_filter.1 h1
  exact ⟨n, h3, (eqT_same _ _).1 h4, h2⟩
theorem vers_len (p : ByteArray) (row : List Nd) : (vers p row).length ≤ row.length := by unfold vers; rw [List.length_map]; exact List.length_filter_le _ _
/-- the latest of these versions -/
def lat4 : List Q4 → Q4
  | [] => (0, 0, 0, ⟨#[]⟩)
  | q :: l => latF q l
theorem latF_mem : ∀ (l : List Q4) (q : Q4), latF q l ∈ q :: l := by
  intro l
  induction l with
  | nil => intro q; simp [latF]
  | cons v r ih =>
    intro q
    have h := ih (if lessQ q v = true then v else q)
    unfold latF at h ⊢
    rw [List.foldl_cons]
    rcases List.mem_cons.1 h with h | h
    · rw [h]; split <;> simp
    · simp [h]
theorem lat4_mem {l : List Q4} (h : l ≠ []) : lat4 l ∈ l := by
  cases l with
  | nil => exact absurd rfl h
  | cons q l => exact latF_mem l q
theorem lat4_snoc {l : List Q4} (h : l ≠ []) (v : Q4) : lat4 (l ++ [v]) = if lessQ (lat4 l) v = true then v else lat4 l := by
  cases l with
  | nil => exact absurd rfl h
  | cons q l => show latF q (l ++ [v]) = if lessQ (latF q l) v = true then v else latF q l; unfold latF; rw [List.foldl_append]; rfl
theorem less_lv {x y : Nd} (hx : okN x) (hy : okN y) : lessQ (ver4 x) (ver4 y) = lv x y := by
  unfold lessQ lv
  exact (less_same16 hx hy).symm
theorem bst_vers {row : List Nd} (p : ByteArray) : (∀ x ∈ row, okN x) → bst p row = if vers p row = [] then none else some (mk4 p (lat4 (vers p row))) := by
  refine snoc_ind (P := fun row => (∀ x ∈ row, okN x) → bst p row = if vers p row = [] then none else some (mk4 p (lat4 (vers p row)))) ?_ ?_ row
  · intro _; rfl
  · intro l n ih hok
    have ih := ih fun x hx => hok x (by simp [hx])
    have hn := hok n (by simp)
    rw [bst_snoc, vers_snoc, ih]
    unfold stp
    by_cases hp : eqT n.path p = true
    · have hp' := (eqT_same _ _).1 hp
      rw [if_pos hp, if_pos hp]
      by_cases hv : vers p l = []
      · rw [if_pos hv, hv]
        show some n = some (mk4 p (ver4 n))
        rw [← hp']
        rfl
      · rw [if_neg hv, if_neg (show ¬ (vers p l ++ [ver4 n] = []) by simp), lat4_snoc hv]
        obtain ⟨m, m1, m2, m3⟩ := vers_mem (lat4_mem hv)
        have hm := hok m (by simp [m1])
        have em : mk4 p (lat4 (vers p l)) = m := by rw [← m3, ← m2]; rfl
        have el := less_lv hm hn
        rw [m3] at el
        rw [em, el]
        show (if lv m n = true then some n else some m) = _
        by_cases hl : lv m n = true
        · rw [if_pos hl, if_pos hl, ← hp']; rfl
        · rw [if_neg hl, if_neg hl, em]
    · rw [if_neg hp, if_neg hp, List.append_nil]
/-- a list that rises by its paths and has of each path the latest -/
theorem sel_groups {row out : List Nd} (hok : ∀ x ∈ row, okN x) (hu : Up out) (hm : ∀ x, x ∈ out ↔ vers x.path row ≠ [] ∧ x = mk4 x.path (lat4 (vers x.path row))) : out = sel16 row := by
  obtain ⟨h1, h2⟩ := sel_bst row
  refine hu.same h1 fun x => ?_
  rw [hm, h2, bst_vers x.path hok]
  constructor
  · rintro ⟨h3, h4⟩
    rw [if_neg h3, ← h4]
  · intro h
    split at h
    · cases h
    · rename_i h3
      simp only [Option.some.injEq] at h
      exact ⟨h3, h.symm⟩
theorem vers_some {p : ByteArray} {row : List Nd} : vers p row ≠ [] ↔ p ∈ row.map Nd.path := by
  unfold vers
  constructor
  · intro h
    obtain ⟨q, hq⟩ := List.exists_mem_of_ne_nil _ h
    obtain ⟨n, h1, _⟩ := List.mem_map.1 hq
    obtain ⟨h3, h4⟩ := List.mem_filter.1 h1
    exact List.mem_map.2 ⟨n, h3, (eqT_same _ _).1 h4⟩
  · intro h he
    obtain ⟨n, h1, h2⟩ := List.mem_map.1 h
    have : ver4 n ∈ ((row.filter fun n => eqT n.path p).map ver4) := List.mem_map_of_mem (List.mem_filter.2 ⟨h1, (eqT_same _ _).2 h2⟩)
    rw [he] at this
    cases this
/-- the paths in the order in which they first came -/
def keys16 (row : List Nd) : List ByteArray := row.foldl (fun K n => if K.any (fun p => eqT p n.path) = true then K else K ++ [n.path]) []
theorem keys_snoc (row : List Nd) (n : Nd) : keys16 (row ++ [n]) = if (keys16 row).any (fun p => eqT p n.path) = true then keys16 row else keys16 row ++ [n.path] := by unfold keys16; rw [List.foldl_append]; rfl
theorem any_key {K : List ByteArray} {p : ByteArray} : K.any (fun x => eqT x p) = true ↔ p ∈ K := by
  rw [List.any_eq_true]
  constructor
  · rintro ⟨x, h1, h2⟩; rw [← (eqT_same _ _).1 h2]; exact h1
  · intro h; exact ⟨p, h, (eqT_same _ _).2 rfl⟩
theorem keys_facts (row : List Nd) : (keys16 row).Nodup ∧ (∀ p, p ∈ keys16 row ↔ p ∈ row.map Nd.path) ∧ (keys16 row).length ≤ row.length := by
  refine snoc_ind (P := fun row => (keys16 row).Nodup ∧ (∀ p, p ∈ keys16 row ↔ p ∈ row.map Nd.path) ∧ (keys16 row).length ≤ row.length) ?_ ?_ row
  · exact ⟨List.nodup_nil, fun p => Iff.rfl, Nat.le_refl _⟩
  · rintro l n ⟨h1, h2, h3⟩
    rw [keys_snoc]
    by_cases h : (keys16 l).any (fun p => eqT p n.path) = true
    · rw [if_pos h]
      have hk := (h2 _).1 (any_key.1 h)
      refine ⟨h1, fun p => ?_, by simp; omega⟩
      rw [h2, List.map_append, List.mem_append]
      constructor
      · exact .inl
      · rintro (h4 | h4)
        · exact h4
        · rw [List.mem_singleton.1 h4]; exact hk
    · rw [if_neg h]
      have hk : n.path ∉ keys16 l := fun h9 => h (any_key.2 h9)
      refine ⟨List.nodup_append.2 ⟨h1, by simp, fun a ha b hb e => ?_⟩, fun p => ?_, by simp; omega⟩
      · rw [List.mem_singleton.1 hb] at e; rw [e] at ha; exact hk ha
      · rw [List.mem_append, h2, List.map_append, List.mem_append]; rfl

end Go.Proofs.YtlhmemnaiobgkaaGreatDoor.Se

/- Chapter 16, the landed code: a map of paths to slices of versions. -/
namespace Go.Proofs.YtlhmemnaiobgkaaGreatDoor.Se
open Go.RowKit Go.Proofs.YtlhmemnaiobgkaaGreatDoor.Mem Go.Proofs.YtlhmemnaiobgkaaGreatDoor.Laws Go.Proofs.YtlhmemnaiobgkaaGreatDoor.Ver Go.Proofs.YtlhmemnaiobgkaaGreatDoor.Ent Go.Proofs.YtlhmemnaiobgkaaGreatDoor.Fe
set_option linter.unusedVariables false
set_option linter.unusedSimpArgs false

/-- the needs of a path -/
def fl (p : ByteArray) (row : List Nd) : List Nd := row.filter fun n => eqT n.path p
theorem vers_fl (p : ByteArray) (row : List Nd) : vers p row = (fl p row).map ver4 := rfl
theorem fl_snoc (p : ByteArray) (row : List Nd) (n : Nd) : fl p (row ++ [n]) = if eqT n.path p = true then fl p row ++ [n] else fl p row := by
  unfold fl
  rw [List.filter_append]
  cases h : eqT n.path p <;> simp [List.filter, h]
theorem fl_none {p : ByteArray} {row : List Nd} (h : p ∉ row.map Nd.path) : fl p row = [] := by
  unfold fl
  rw [List.filter_eq_nil_iff]
  intro n hn he
  exact h (List.mem_map.2 ⟨n, hn, (eqT_same _ _).1 he⟩)
theorem fl_some {p : ByteArray} {row : List Nd} (h : p ∈ row.map Nd.path) : fl p row ≠ [] := by
  obtain ⟨n, hn, rfl⟩ := List.mem_map.1 h
  intro he
  have := List.filter_eq_nil_iff.1 he n hn
  exact this ((eqT_same _ _).2 rfl)
theorem fl_sub {p : ByteArray} {row : List Nd} {n : Nd} (h : n ∈ fl p row) : n ∈ row := (List.mem_filter.1 h).1
theorem fl_len (p : ByteArray) (row : List Nd) : (fl p row).length ≤ row.length := List.length_filter_le _ _

/-- the entries of a map: paths and values, in the order in which they came -/
def entG : List (ByteArray × Value) → Nat → List MapEntry
  | [], _ => []
  | x :: r, i => { key := .string x.1, val := x.2, born := i } :: entG r (i + 1)
theorem entG_len : ∀ (G : List (ByteArray × Value)) (i : Nat), (entG G i).length = G.length := by
  intro G
  induction G with
  | nil => intro i; rfl
  | cons x r ih => intro i; show (entG r (i + 1)).length + 1 = _; rw [ih]; rfl
theorem entG_snoc (x : ByteArray × Value) : ∀ (G : List (ByteArray × Value)) (i : Nat), entG (G ++ [x]) i = entG G i ++ [{ key := .string x.1, val := x.2, born := i + G.length }] := by
  intro G
  induction G with
  | nil => intro i; rfl
  | cons y r ih =>
    intro i
    show _ :: entG (r ++ [x]) (i + 1) = _
    rw [ih, show i + 1 + r.length = i + (y :: r).length by simp; omega]
    rfl
theorem entG_set (x : ByteArray × Value) : ∀ (G : List (ByteArray × Value)) (k i : Nat), (entG G i).modify k (fun e => { e with key := .string x.1, val := x.2 }) = entG (G.set k x) i := by
  intro G
  induction G with
  | nil => intro k i; cases k <;> rfl
  | cons y r ih =>
    intro k i
    cases k with
    | zero => rfl
    | succ k =>
      show _ :: (entG r (i + 1)).modify k _ = _ :: entG (r.set k x) (i + 1)
      rw [ih]
theorem entG_get : ∀ (G : List (ByteArray × Value)) (k i : Nat), (entG G i)[k]? = (G[k]?).map fun x => { key := .string x.1, val := x.2, born := i + k } := by
  intro G
  induction G with
  | nil => intro k i; simp [entG]
  | cons y r ih =>
    intro k i
    cases k with
    | zero => rfl
    | succ k =>
      show (entG r (i + 1))[k]? = _
      rw [ih]
      simp only [List.getElem?_cons_succ]
      rw [show i + 1 + k = i + (k + 1) by omega]
def Mg (w : World) (b : Nat) (G : List (ByteArray × Value)) : Prop := w.heap[b]? = some (.map (entG G 0).toArray G.length)
theorem Mg.later {w w' : World} {b : Nat} {G : List (ByteArray × Value)} (h : Mg w b G) (hb : Below w.heap.size w w') : Mg w' b G := (hb.block b (Array.getElem?_eq_some_iff.1 h).1).trans h
theorem Mg.gro {w w' : World} {b : Nat} {G : List (ByteArray × Value)} {r : Option Nat} (h : Mg w b G) (g : w.grownBy w' r) (hr : r ≠ some b) : Mg w' b G := (g.block b (Array.getElem?_eq_some_iff.1 h).1 (fun e => hr e.symm)).trans h
theorem mapG : Tryz.prog.underlying 110 = some (.map 9 42) := by kernel_rfl
theorem zeroG (w : World) : (zeroValue 42).run Tryz.prog w = .ok (.slice none 0 0) w := by kernel_rfl
theorem findG (p : ByteArray) : ∀ (G : List (ByteArray × Value)) (i j : Nat),
    (p ∉ G.map Prod.fst ∧ Instr.findNow .string (.string p) (entG G i) j = some none) ∨ (∃ (k : Nat) (v : Value), G[k]? = some (p, v) ∧ Instr.findNow .string (.string p) (entG G i) j = some (some (j + k, v))) := by
  intro G
  induction G with
  | nil => intro i j; exact .inl ⟨by simp, rfl⟩
  | cons x r ih =>
    intro i j
    have hs : Instr.sameNow .string (.string p) (.string x.1) = some (p == x.1) := rfl
    cases h : (p == x.1) with
    | true =>
      have he := (MapKept.bytes_beq p x.1).1 h
      exact .inr ⟨0, x.2, by simp [he], by show Instr.findNow _ _ (_ :: _) _ = _; simp [Instr.findNow, hs, h]⟩
    | false =>
      have hn : p ≠ x.1 := fun e => by rw [(MapKept.bytes_beq p x.1).2 e] at h; cases h
      have hf : Instr.findNow .string (.string p) (entG (x :: r) i) j = Instr.findNow .string (.string p) (entG r (i + 1)) (j + 1) := by show Instr.findNow _ _ (_ :: _) _ = _; simp [Instr.findNow, hs, h]
      rw [hf]
      rcases ih (i + 1) (j + 1) with ⟨h1, h2⟩ | ⟨k, v, h1, h2⟩
      · exact .inl ⟨by simp only [List.map_cons, List.mem_cons, not_or]; exact ⟨hn, h1⟩, h2⟩
      · exact .inr ⟨k + 1, v, by simpa using h1, by rw [h2]; congr 3; omega⟩
theorem lookG (w : World) (b : Nat) (G : List (ByteArray × Value)) (p : ByteArray) (hb : Mg w b G) :
    (p ∉ G.map Prod.fst ∧ (Instr.lookup 110 (.map (some b)) (.string p) false).run Tryz.prog w = .ok (.slice none 0 0) w) ∨
    (∃ (k : Nat) (v : Value), G[k]? = some (p, v) ∧ (Instr.lookup 110 (.map (some b)) (.string p) false).run Tryz.prog w = .ok v w) := by
  have hb' : w.heap[b]? = some (.map (entG G 0).toArray G.length) := hb
  have hc := fun e => MapKept.run_checkKey (P := Tryz.prog) (w := w) (kt := 9) (k := .string p) Tryz.underlying9 trivial e 9999
  rcases findG p G 0 0 with ⟨h1, h2⟩ | ⟨k, v, h1, h2⟩
  · exact .inl ⟨h1, by simp [Instr.lookup, run_underlying mapG, MapKept.run_getObj_map hb', hc, MapKept.run_findKey Tryz.underlying9 h2, Result.andThen, zeroG]⟩
  · exact .inr ⟨k, v, h1, by simp [Instr.lookup, run_underlying mapG, MapKept.run_getObj_map hb', hc, MapKept.run_findKey Tryz.underlying9 h2, Result.andThen]⟩
theorem putG_new (w : World) (b : Nat) (G : List (ByteArray × Value)) (p : ByteArray) (v : Value) (hb : Mg w b G) (hn : p ∉ G.map Prod.fst) :
    ∃ w', (Instr.mapUpdate 110 (.map (some b)) (.string p) v).run Tryz.prog w = .ok () w' ∧ Mg w' b (G ++ [(p, v)]) ∧ w.grownBy w' (some b) ∧ w'.heap.size = w.heap.size := by
  have hb' : w.heap[b]? = some (.map (entG G 0).toArray G.length) := hb
  have hc := fun e => MapKept.run_checkKey (P := Tryz.prog) (w := w) (kt := 9) (k := .string p) Tryz.underlying9 trivial e 9999
  refine ⟨{ w with heap := w.heap.setIfInBounds b (.map (entG (G ++ [(p, v)]) 0).toArray (G ++ [(p, v)]).length) }, ?_, (MapKept.heap_set hb').1, gro_map w b _, by simp⟩
  have he : (entG (G ++ [(p, v)]) 0).toArray = (entG G 0).toArray.push { key := .string p, val := v, born := G.length } := by
    rw [entG_snoc, Nat.zero_add]
    simp
  rw [he, show (G ++ [(p, v)]).length = G.length + 1 by simp]
  rcases findG p G 0 0 with ⟨h1, h2⟩ | ⟨k, v2, h1, h2⟩
  · simp [Instr.mapUpdate, run_underlying mapG, MapKept.run_getObj_map hb', hc, MapKept.run_findKey Tryz.underlying9 h2, MapKept.run_setObj_map _ hb', Result.andThen]
  · exact absurd (List.mem_map.2 ⟨_, List.mem_of_getElem? h1, rfl⟩) hn
theorem putG_old (w : World) (b k : Nat) (G : List (ByteArray × Value)) (p : ByteArray) (v v0 : Value) (hb : Mg w b G) (hk : G[k]? = some (p, v0)) (hu : (G.map Prod.fst).Nodup) :
    ∃ w', (Instr.mapUpdate 110 (.map (some b)) (.string p) v).run Tryz.prog w = .ok () w' ∧ Mg w' b (G.set k (p, v)) ∧ w.grownBy w' (some b) ∧ w'.heap.size = w.heap.size := by
  have hb' : w.heap[b]? = some (.map (entG G 0).toArray G.length) := hb
  have hc := fun e => MapKept.run_checkKey (P := Tryz.prog) (w := w) (kt := 9) (k := .string p) Tryz.underlying9 trivial e 9999
  refine ⟨{ w with heap := w.heap.setIfInBounds b (.map (entG (G.set k (p, v)) 0).toArray (G.set k (p, v)).length) }, ?_, (MapKept.heap_set hb').1, gro_map w b _, by simp⟩
  have he : (entG (G.set k (p, v)) 0).toArray = (entG G 0).toArray.modify k (fun e => { e with key := .string p, val := v }) := by
    rw [← entG_set (p, v)]
    apply Array.ext'
    rw [Array.toList_modify]
  rw [he, List.length_set]
  have hkl : k < G.length := (List.getElem?_eq_some_iff.1 hk).1
  rcases findG p G 0 0 with ⟨h1, h2⟩ | ⟨k2, v2, h1, h2⟩
  · exact absurd (List.mem_map.2 ⟨_, List.mem_of_getElem? hk, rfl⟩) h1
  · have hkk : k2 = k := by
      have h2l : k2 < G.length := (List.getElem?_eq_some_iff.1 h1).1
      have e1 : (G.map Prod.fst)[k2]? = some p := by rw [List.getElem?_map, h1]; rfl
      have e2 : (G.map Prod.fst)[k]? = some p := by rw [List.getElem?_map, hk]; rfl
      exact (List.getElem?_inj (by simpa using h2l) hu).1 (e1.trans e2.symm)
    subst hkk
    have hget : (entG G 0).toArray[k2]? = some { key := .string p, val := v0, born := 0 + k2 } := by
      rw [List.getElem?_toArray, entG_get, hk]
      rfl
    rw [Nat.zero_add] at h2
    have hst := MapKept.run_keyThatStays (P := Tryz.prog) (w := w) (d := .string) (k := .string p) trivial
    have hgk : (entG G 0)[k2]? = some { key := .string p, val := v0, born := 0 + k2 } := by rw [entG_get, hk]; rfl
    simp [Instr.mapUpdate, run_underlying mapG, MapKept.run_getObj_map hb', hc, MapKept.run_findKey Tryz.underlying9 h2, hget, hgk, hst, MapKept.run_setObj_map _ hb', Result.andThen]

end Go.Proofs.YtlhmemnaiobgkaaGreatDoor.Se

/- Chapter 16, the landed code: groups of versions, each in a slice of its own. -/
namespace Go.Proofs.YtlhmemnaiobgkaaGreatDoor.Se
open Go.RowKit Go.Proofs.YtlhmemnaiobgkaaGreatDoor.Mem Go.Proofs.YtlhmemnaiobgkaaGreatDoor.Laws Go.Proofs.YtlhmemnaiobgkaaGreatDoor.Ver Go.Proofs.YtlhmemnaiobgkaaGreatDoor.Ent Go.Proofs.YtlhmemnaiobgkaaGreatDoor.Fe
set_option linter.unusedVariables false
set_option linter.unusedSimpArgs false

theorem On.neMap {n m : Nat} {w : World} {lo hi b : Nat} {e : TypeId} {v : Value} {cs : List Value} {es : Array MapEntry} {c : Nat} (h : On n w lo hi e v m cs) (hb : w.heap[b]? = some (.map es c)) : v.ownBlock ≠ some b := fun e9 => by
  rcases h.1.2 with ⟨h9, _⟩ | ⟨g9, cap, cur, h9, _, hg9, _⟩
  · rw [h9] at e9; cases e9
  · rw [h9] at e9
    have e2 : g9 = b := by simpa [Value.ownBlock] using e9
    rw [e2, hb] at hg9
    simp at hg9
theorem Ow.block1 {w : World} {lo hi : Nat} {v : Value} {l : List Nd} (h : Ow w lo hi v l) (hl : l ≠ []) : ∃ g cap, v = .slice (some ⟨g, 0, none⟩) l.length cap := by
  rcases h.1.2 with ⟨_, h0⟩ | ⟨g, cap, cur, h9, _⟩
  · exact absurd (List.length_eq_zero_iff.1 h0) hl
  · exact ⟨g, cap, h9⟩
/-- versions of a path, each path's in a slice of its own -/
structure Gr (w : World) (lo : Nat) (G : List (ByteArray × Value)) (row : List Nd) : Prop where
  keys : G.map Prod.fst = keys16 row
  own : ∀ x ∈ G, Ow w lo w.heap.size x.2 (fl x.1 row)
  apart : ∀ (i j : Nat) (x y : ByteArray × Value), G[i]? = some x → G[j]? = some y → x.2.ownBlock = y.2.ownBlock → i = j
theorem Gr.nil (w : World) (lo : Nat) : Gr w lo [] [] := ⟨rfl, fun x hx => (List.not_mem_nil hx).elim, fun i j x y h _ _ => by simp at h⟩
theorem Gr.nodup {w : World} {lo : Nat} {G : List (ByteArray × Value)} {row : List Nd} (h : Gr w lo G row) : (G.map Prod.fst).Nodup := by rw [h.keys]; exact (keys_facts row).1
theorem Gr.gro {w w' : World} {lo : Nat} {G : List (ByteArray × Value)} {row : List Nd} {r : Option Nat} (h : Gr w lo G row) (g : w.grownBy w' r) (hr : ∀ x ∈ G, ∀ k, x.2.ownBlock = some k → r ≠ some k) : Gr w' lo G row :=
  ⟨h.keys, fun x hx => On.mono (On.keep1 (h.own x hx) (fun j hj => g.block j (On.lt (h.own x hx) hj).2.2 (fun e => hr x hx j hj e.symm))) (Nat.le_refl _) g.size, h.apart⟩
theorem Gr.later {w w' : World} {lo : Nat} {G : List (ByteArray × Value)} {row : List Nd} (h : Gr w lo G row) (b : Below w.heap.size w w') : Gr w' lo G row :=
  ⟨h.keys, fun x hx => On.mono (On.later (h.own x hx) b (Nat.le_refl _)) (Nat.le_refl _) b.size, h.apart⟩
theorem key_mem {row : List Nd} {p : ByteArray} : p ∈ keys16 row ↔ p ∈ row.map Nd.path := (keys_facts row).2.1 p
theorem Gr.mem {w : World} {lo : Nat} {G : List (ByteArray × Value)} {row : List Nd} (h : Gr w lo G row) {x : ByteArray × Value} (hx : x ∈ G) : x.1 ∈ row.map Nd.path := by
  rw [← key_mem, ← h.keys]
  exact List.mem_map_of_mem hx
theorem Gr.block {w : World} {lo : Nat} {G : List (ByteArray × Value)} {row : List Nd} (h : Gr w lo G row) {x : ByteArray × Value} (hx : x ∈ G) : ∃ g cap, x.2 = .slice (some ⟨g, 0, none⟩) (fl x.1 row).length cap := Ow.block1 (h.own x hx) (fl_some (h.mem hx))
theorem own_slice (g n cap : Nat) : (Value.slice (some ⟨g, 0, none⟩) n cap).ownBlock = some g := rfl
/-- the first version of a path -/
theorem Gr.new {w w' : World} {lo : Nat} {G : List (ByteArray × Value)} {row : List Nd} {n : Nd} {v : Value} (h : Gr w lo G row) (hn : n.path ∉ G.map Prod.fst) (g : w.grownBy w' none) (o : Ow w' lo w'.heap.size v [n]) (hat : v.ownBlock = none ∨ v.ownBlock = some w.heap.size) :
    Gr w' lo (G ++ [(n.path, v)]) (row ++ [n]) := by
  have hk : n.path ∉ keys16 row := by rw [← h.keys]; exact hn
  have hp : n.path ∉ row.map Nd.path := fun h9 => hk (key_mem.2 h9)
  obtain ⟨gv, cv, hv⟩ := Ow.block1 o (by simp)
  have hat2 : v.ownBlock = some w.heap.size := by
    rcases hat with h9 | h9
    · rw [hv, own_slice] at h9; cases h9
    · exact h9
  have h2 := h.gro g (fun x hx k hk => by simp)
  refine ⟨?_, ?_, ?_⟩
  · rw [keys_snoc, if_neg (fun h9 => hk (any_key.1 h9)), List.map_append, h.keys]
    rfl
  · intro x hx
    rcases List.mem_append.1 hx with hx | hx
    · have hne : ¬ eqT n.path x.1 = true := fun h9 => hn (by rw [(eqT_same _ _).1 h9]; exact List.mem_map_of_mem hx)
      rw [fl_snoc, if_neg hne]
      exact h2.own x hx
    · rw [List.mem_singleton.1 hx]
      show Ow w' lo w'.heap.size v (fl n.path (row ++ [n]))
      rw [fl_snoc, if_pos ((eqT_same _ _).2 rfl), fl_none hp]
      exact o
  · have hlow : ∀ (i : Nat) (x : ByteArray × Value), G[i]? = some x → x.2.ownBlock ≠ v.ownBlock := by
      intro i x hi e
      have hx := List.mem_of_getElem? hi
      have := (On.lt (h.own x hx) (e.trans hat2)).2.2
      omega
    intro i j x y hi hj e
    rw [List.getElem?_append] at hi hj
    split at hi
    · split at hj
      · exact h.apart i j x y hi hj e
      · rename_i h8
        have : y = (n.path, v) := by
          have := List.mem_of_getElem? hj
          simpa using this
        subst this
        exact absurd e (hlow i x hi)
    · rename_i h7
      have hx : x = (n.path, v) := by
        have := List.mem_of_getElem? hi
        simpa using this
      subst hx
      split at hj
      · exact absurd e.symm (hlow j y hj)
      · rename_i h8
        have l1 := (List.getElem?_eq_some_iff.1 hi).1
        have l2 := (List.getElem?_eq_some_iff.1 hj).1
        simp at l1 l2
        omega
/-- one more version of a path -/
theorem Gr.old {w w' : World} {lo k : Nat} {G : List (ByteArray × Value)} {row : List Nd} {n : Nd} {v v0 : Value} (h : Gr w lo G row) (hk : G[k]? = some (n.path, v0)) (g : w.grownBy w' v0.ownBlock) (o : Ow w' lo w'.heap.size v (fl n.path row ++ [n])) (hat : v.ownBlock = v0.ownBlock ∨ v.ownBlock = some w.heap.size) :
    Gr w' lo (G.set k (n.path, v)) (row ++ [n]) := by
  have hkl := (List.getElem?_eq_some_iff.1 hk).1
  have hm := List.mem_of_getElem? hk
  have hin : n.path ∈ keys16 row := by rw [← h.keys]; exact List.mem_map_of_mem hm
  have hfar : ∀ (i : Nat) (x : ByteArray × Value), G[i]? = some x → i ≠ k → x.2.ownBlock ≠ v0.ownBlock := fun i x hi hne e => hne (h.apart i k x _ hi hk e)
  refine ⟨?_, ?_, ?_⟩
  · rw [keys_snoc, if_pos (any_key.2 hin), ← h.keys]
    apply List.ext_getElem?
    intro i
    rw [List.getElem?_map, List.getElem?_map, List.getElem?_set]
    by_cases hik : k = i
    · subst hik
      rw [if_pos rfl, if_pos hkl, hk]
      rfl
    · rw [if_neg hik]
  · intro x hx
    obtain ⟨i, hi⟩ := List.mem_iff_getElem?.1 hx
    rw [List.getElem?_set] at hi
    by_cases hik : k = i
    · subst hik
      rw [if_pos rfl, if_pos hkl] at hi
      simp only [Option.some.injEq] at hi
      subst hi
      show Ow w' lo w'.heap.size v (fl n.path (row ++ [n]))
      rw [fl_snoc, if_pos ((eqT_same _ _).2 rfl)]
      exact o
    · rw [if_neg hik] at hi
      have hxm := List.mem_of_getElem? hi
      have hne : ¬ eqT n.path x.1 = true := fun h9 => by
        have e1 : (G.map Prod.fst)[i]? = some n.path := by rw [List.getElem?_map, hi]; simp [(eqT_same _ _).1 h9]
        have e2 : (G.map Prod.fst)[k]? = some n.path := by rw [List.getElem?_map, hk]; rfl
        exact hik ((List.getElem?_inj (by simpa using hkl) h.nodup).1 (e2.trans e1.symm))
      rw [fl_snoc, if_neg hne]
      exact On.mono (On.keep1 (h.own x hxm) (fun j hj => g.block j (On.lt (h.own x hxm) hj).2.2 (fun e => hfar i x hi (fun e9 => hik e9.symm) (hj.trans e)))) (Nat.le_refl _) g.size
  · have hnew : ∀ (i : Nat) (x : ByteArray × Value), G[i]? = some x → i ≠ k → x.2.ownBlock ≠ v.ownBlock := by
      intro i x hi hne e
      rcases hat with h9 | h9
      · exact hfar i x hi hne (e.trans h9)
      · have := (On.lt (h.own x (List.mem_of_getElem? hi)) (e.trans h9)).2.2
        omega
    intro i j x y hi hj e
    rw [List.getElem?_set] at hi hj
    by_cases hik : k = i
    · by_cases hjk : k = j
      · omega
      · subst hik
        rw [if_pos rfl, if_pos hkl] at hi
        rw [if_neg hjk] at hj
        simp only [Option.some.injEq] at hi
        subst hi
        exact absurd e.symm (hnew j y hj (fun e9 => hjk e9.symm))
    · rw [if_neg hik] at hi
      by_cases hjk : k = j
      · subst hjk
        rw [if_pos rfl, if_pos hkl] at hj
        simp only [Option.some.injEq] at hj
        subst hj
        exact absurd e (hnew i x hi (fun e9 => hik e9.symm))
      · rw [if_neg hjk] at hj
        exact h.apart i j x y hi hj e
/-- where the cells of owned versions lie -/
theorem Ow.cv {w : World} {lo hi : Nat} {v : Value} {l : List Nd} (h : Ow w lo hi v l) (hl : l ≠ []) : ∃ g cap, v = .slice (some ⟨g, 0, none⟩) l.length cap ∧ l.length ≤ cap ∧ Cv w g (l.map ver4) := by
  obtain ⟨g, cap, rfl⟩ := Ow.block1 h hl
  have hs := On.sn h
  obtain ⟨h1, ao, cap9, he, hc, _, hr⟩ := hs
  simp only [Value.slice.injEq] at he
  obtain ⟨rfl, _, rfl⟩ := he
  obtain ⟨b9, off9, he9, hcell⟩ := hr (by cases l with | nil => exact absurd rfl hl | cons a b => simp)
  simp only [Option.some.injEq, Addr.mk.injEq] at he9
  obtain ⟨rfl, rfl, _⟩ := he9
  refine ⟨g, cap, rfl, hc, fun k q hq => ?_⟩
  rw [List.getElem?_map] at hq
  obtain ⟨n, hn, rfl⟩ := Option.map_eq_some_iff.1 hq
  have hk := (List.getElem?_eq_some_iff.1 hn).1
  have hget : ∀ (l : List Nd) (k : Nat) (n : Nd), l[k]? = some n → (vcs l)[k * 4]? = some (.int .i64 n.a) ∧ (vcs l)[k * 4 + 1]? = some (.int .i64 n.b) ∧ (vcs l)[k * 4 + 2]? = some (.int .i64 n.c) ∧ (vcs l)[k * 4 + 3]? = some (.string n.pre) := by
    intro l
    induction l with
    | nil => intro k n h; simp at h
    | cons x r ih =>
      intro k n h
      cases k with
      | zero => simp at h; subst h; exact ⟨rfl, rfl, rfl, rfl⟩
      | succ k =>
        have := ih k n (by simpa using h)
        rw [show (k + 1) * 4 = k * 4 + 4 by omega]
        exact this
  obtain ⟨c0, c1, c2, c3⟩ := hget l k n hn
  have hl4 : (vcs l).length = l.length * 4 := vcs_len l
  have e : k * 4 = 4 * k := Nat.mul_comm _ _
  rw [e] at c0 c1 c2 c3
  have f0 := hcell (4 * k) (by omega)
  have f1 := hcell (4 * k + 1) (by omega)
  have f2 := hcell (4 * k + 2) (by omega)
  have f3 := hcell (4 * k + 3) (by omega)
  rw [Nat.zero_add] at f0 f1 f2 f3
  exact ⟨f0.trans c0, f1.trans c1, f2.trans c2, f3.trans c3⟩

end Go.Proofs.YtlhmemnaiobgkaaGreatDoor.Se

/- Chapter 16, the landed code: a map's keys, sorted; what is made of the groups. -/
namespace Go.Proofs.YtlhmemnaiobgkaaGreatDoor.Se
open Go.RowKit Go.Proofs.YtlhmemnaiobgkaaGreatDoor.Mem Go.Proofs.YtlhmemnaiobgkaaGreatDoor.Laws Go.Proofs.YtlhmemnaiobgkaaGreatDoor.Ver Go.Proofs.YtlhmemnaiobgkaaGreatDoor.Ent Go.Proofs.YtlhmemnaiobgkaaGreatDoor.Fe
set_option linter.unusedVariables false
set_option linter.unusedSimpArgs false

theorem bl_lt : ∀ a b : List UInt8, Op.bytesLess a b = true ↔ a < b := by
  intro a
  induction a with
  | nil =>
    intro b
    cases b with
    | nil => simp [Op.bytesLess]
    | cons y b => simp [Op.bytesLess]
  | cons x a ih =>
    intro b
    cases b with
    | nil => simp [Op.bytesLess]
    | cons y b =>
      simp only [Op.bytesLess, Bool.or_eq_true, Bool.and_eq_true, decide_eq_true_eq, beq_iff_eq, List.cons_lt_cons_iff, ih]
theorem le_bl (a b : List UInt8) : decide (a ≤ b) = !Op.bytesLess b a := by
  have h := bl_lt b a
  cases hb : Op.bytesLess b a with
  | true =>
    have h1 := h.1 hb
    exact decide_eq_false (fun h2 => (List.not_lt.2 h2) h1)
  | false =>
    exact decide_eq_true (List.not_lt.1 (fun h2 => by rw [h.2 h2] at hb; cases hb))
theorem bl_le_tr (a b c : List UInt8) (h1 : Op.bytesLess b a = false) (h2 : Op.bytesLess c b = false) : Op.bytesLess c a = false := by
  cases h3 : Op.bytesLess c a with
  | false => rfl
  | true =>
    rcases bl_tot a b with h | h | h
    · rw [bl_tr c a b h3 h] at h2; cases h2
    · subst h; rw [h3] at h2; cases h2
    · rw [h] at h1; cases h1
theorem sort_pair (ss : List (List UInt8)) : (ss.mergeSort (fun x y => decide (x ≤ y))).Pairwise fun a b => Op.bytesLess b a = false := by
  have h := List.pairwise_mergeSort (le := fun x y => decide (x ≤ y)) (by
    intro a b c h1 h2
    rw [le_bl] at h1 h2 ⊢
    simp only [Bool.not_eq_true'] at h1 h2 ⊢
    exact bl_le_tr a b c h1 h2) (by
    intro a b
    rw [le_bl, le_bl]
    rcases bl_tot a b with h | h | h
    · have : Op.bytesLess b a = false := by
        cases h3 : Op.bytesLess b a with
        | false => rfl
        | true => have := bl_tr a b a h h3; rw [bl_irr] at this; cases this
      simp [this]
    · subst h; simp [bl_irr]
    · have : Op.bytesLess a b = false := by
        cases h3 : Op.bytesLess a b with
        | false => rfl
        | true => have := bl_tr a b a h3 h; rw [bl_irr] at this; cases this
      simp [this]) ss
  exact h.imp (fun h9 => by rw [le_bl] at h9; simpa using h9)

/-- any value reads as this -/
def anyR (_ : Value) : Option (DataW Unit × List MemPlace) := some (.lit (.bool true), [])
theorem Mg.owns {w : World} {b : Nat} {G : List (ByteArray × Value)} (hb : Mg w b G) (hnd : (G.map Prod.fst).Nodup) (hl : G.length ≤ 1000) (hz : ∀ x ∈ G, x.1.size ≤ maxLen) :
    ∃ D0 : DataW Unit, w.ownsMap Tryz.prog 9 anyR b 1000 D0 ∧ Maps.size D0 = G.length ∧ (strKeys D0).Perm (G.map fun x => x.1.data.toList) := by
  have hkey : ∀ x ∈ G, keyOf Tryz.prog 9 (.string x.1) = some (.string x.1.data.toList) := fun x hx => Go.WideMaps.keyOf_string_mk Tryz.underlying9 (hz x hx)
  have hlist : ∀ (G : List (ByteArray × Value)) (i : Nat), (entG G i).map (·.key) = G.map (fun x => Value.string x.1) := by
    intro G
    induction G with
    | nil => intro i; rfl
    | cons x r ih => intro i; show _ :: (entG r (i + 1)).map _ = _; rw [ih]; rfl
  have hborn : ∀ (G : List (ByteArray × Value)) (i : Nat), (∀ e ∈ entG G i, i ≤ e.born ∧ e.born < i + G.length) ∧ ((entG G i).map (·.born)).Nodup := by
    intro G
    induction G with
    | nil => intro i; exact ⟨fun e he => (List.not_mem_nil he).elim, List.nodup_nil⟩
    | cons x r ih =>
      intro i
      obtain ⟨h1, h2⟩ := ih (i + 1)
      refine ⟨fun e he => ?_, ?_⟩
      · rcases List.mem_cons.1 he with h9 | h9
        · rw [h9]; simp
        · have := h1 e h9; simp; omega
      · show (i :: (entG r (i + 1)).map (·.born)).Nodup
        refine List.nodup_cons.2 ⟨fun h9 => ?_, h2⟩
        obtain ⟨e, he, h8⟩ := List.mem_map.1 h9
        have := (h1 e he).1
        omega
  have hread : ∀ (G : List (ByteArray × Value)) (i : Nat), (∀ x ∈ G, x.1.size ≤ maxLen) → ∀ e ∈ entG G i, ∃ x ∈ G, WideElems.rd Tryz.prog 9 anyR e = some (.string x.1.data.toList, .lit (.bool true)) := by
    intro G
    induction G with
    | nil => intro i _ e he; exact (List.not_mem_nil he).elim
    | cons x r ih =>
      intro i h e he
      rcases List.mem_cons.1 he with h9 | h9
      · rw [h9]
        exact ⟨x, by simp, WideElems.rd_mk (yv := (.lit (.bool true), [])) (Go.WideMaps.keyOf_string_mk Tryz.underlying9 (h x (by simp))) rfl⟩
      · obtain ⟨y, h7, h8⟩ := ih (i + 1) (fun y hy => h y (by simp [hy])) e h9
        exact ⟨y, by simp [h7], h8⟩
  have hrg : ∀ (G : List (ByteArray × Value)) (i : Nat), (∀ x ∈ G, x.1.size ≤ maxLen) → (entG G i).map (WideElems.rg Tryz.prog 9 anyR) = G.map (fun x => (Lit.string x.1.data.toList, DataW.lit (.bool true))) := by
    intro G
    induction G with
    | nil => intro i _; rfl
    | cons x r ih =>
      intro i h
      show WideElems.rg Tryz.prog 9 anyR _ :: (entG r (i + 1)).map _ = _
      rw [ih (i + 1) (fun y hy => h y (by simp [hy])), WideElems.rg_of (WideElems.rd_mk (yv := (.lit (.bool true), [])) (Go.WideMaps.keyOf_string_mk Tryz.underlying9 (h x (by simp))) rfl)]
      rfl
  have hFit : WideElems.Fit Tryz.prog 9 anyR (entG G 0).toArray G.length := by
    refine ⟨by simp [entG_len]; unfold maxLen; omega, ⟨?_, ?_, ?_⟩, ?_⟩
    · intro e he
      have := ((hborn G 0).1 e (by simpa using he)).2
      omega
    · simpa using (hborn G 0).2
    · have h9 : ((entG G 0).toArray.toList.map (·.key)) = (G.map Prod.fst).map Value.string := by
        show (entG G 0).map _ = _
        rw [hlist, List.map_map]
        rfl
      rw [h9]
      exact List.Pairwise.map _ (fun a b hab h8 => hab (by injection h8)) hnd
    · intro e he
      obtain ⟨x, _, h8⟩ := hread G 0 hz e (by simpa using he)
      exact ⟨_, h8⟩
  refine ⟨_, ⟨_, _, hb, hFit, by simp [entG_len]; omega, rfl⟩, ?_, ?_⟩
  · have := (WideShapes.sorted_perm ((entG G 0).toArray.toList.map (WideElems.rg Tryz.prog 9 anyR))).length_eq
    rw [Maps.size_eq, this]
    simp [entG_len]
  · have h1 := WideShapes.sorted_perm ((entG G 0).toArray.toList.map (WideElems.rg Tryz.prog 9 anyR))
    have h2 := h1.map (fun p => strOf p.1)
    have h3 : ((entG G 0).toArray.toList.map (WideElems.rg Tryz.prog 9 anyR)).map (fun p => strOf p.1) = G.map fun x => x.1.data.toList := by
      show ((entG G 0).map _).map _ = _
      rw [hrg G 0 hz, List.map_map]
      rfl
    rw [h3] at h2
    exact h2
theorem keys_impl (W : World) (b : Nat) : Calls Tryz.prog 80 #[.map (some b)] W fun e w' => e = .returned (.func (.func 100) #[] #[.pointer (some ⟨W.heap.size, 0, none⟩)]) ∧ w' = W.alloc (.cells #[.map (some b)] 110) :=
  callsIn_wide.1 (Itr.keys_laid (some b) W)
theorem sorted_impl (W : World) (b : Nat) (G : List (ByteArray × Value)) (hb : Mg W b G) (hnd : (G.map Prod.fst).Nodup) (hl : G.length ≤ 1000) (hz : ∀ x ∈ G, x.1.size ≤ maxLen) :
    Calls Tryz.prog 79 #[.func (.func 100) #[] #[.pointer (some ⟨W.heap.size, 0, none⟩)]] (W.alloc (.cells #[.map (some b)] 110)) fun e w' => ∃ (v : Value) (SK : List ByteArray), e = .returned v ∧ SK.Perm (G.map Prod.fst) ∧ (SK.Pairwise fun a c => ltT c a = false) ∧ Own w' W.heap.size w'.heap.size 9 v (ss SK) ∧ Below W.heap.size W w' := by
  obtain ⟨D0, h1, h2, h3⟩ := hb.owns hnd hl hz
  refine (callsIn_wide.1 (Itr.sorted_laid b 1000 D0 anyR W h1 (by rw [h2]; unfold maxLen; omega) (by rw [h2]; omega))).mono ?_
  rintro e w' ⟨v, sk, rfl, hp, ho, _, hB⟩
  have hmap : ∀ l : List (List UInt8), l.map Go.Proofs.encStr = ss (l.map fun x => (⟨x.toArray⟩ : ByteArray)) := fun l => by
    unfold ss
    rw [List.map_map]
    rfl
  have hback : ∀ l : List ByteArray, (l.map fun x => x.data.toList).map (fun x => (⟨x.toArray⟩ : ByteArray)) = l := fun l => by
    rw [List.map_map]
    conv => rhs; rw [← List.map_id l]
    apply List.map_congr_left
    intro x _
    cases x
    simp
  have hps := (List.mergeSort_perm sk (fun x y => decide (x ≤ y))).trans (hp.trans h3)
  refine ⟨v, (sk.mergeSort (fun x y => decide (x ≤ y))).map (fun x => (⟨x.toArray⟩ : ByteArray)), rfl, ?_, ?_, ?_, ?_⟩
  · have h4 := hps.map (fun x => (⟨x.toArray⟩ : ByteArray))
    have h5 : (G.map fun x => x.1.data.toList) = (G.map Prod.fst).map (fun x => x.data.toList) := by rw [List.map_map]; rfl
    rw [h5, hback] at h4
    exact h4
  · rw [List.pairwise_map]
    refine (sort_pair sk).imp (fun h9 => ?_)
    unfold ltT
    rw [ByteArray.toList_eq, ByteArray.toList_eq]
    simpa using h9
  · rw [hmap] at ho
    refine Own.mono (Own.of ho) ?_ (Nat.le_refl _)
    rw [World.size_alloc]
    omega
  · exact ((Below.refl _ _).alloc (Nat.le_refl _) _).trans (hB.mono (by rw [World.size_alloc]; omega))
/-- of each path the latest -/
def latN (row : List Nd) (p : ByteArray) : Nd := mk4 p (lat4 (vers p row))
theorem latN_path (row : List Nd) (p : ByteArray) : (latN row p).path = p := rfl
theorem groups_sel {row : List Nd} {SK : List ByteArray} (hok : ∀ x ∈ row, okN x) (hp : SK.Perm (keys16 row)) (hs : SK.Pairwise fun a c => ltT c a = false) : SK.map (latN row) = sel16 row := by
  have hnd : SK.Nodup := hp.nodup_iff.2 (keys_facts row).1
  refine sel_groups hok ?_ ?_
  · unfold Up
    rw [List.pairwise_map]
    have h9 : SK.Pairwise (fun a c => ltT c a = false ∧ a ≠ c) := List.Pairwise.and hs hnd
    refine h9.imp (fun h8 => ?_)
    rw [latN_path, latN_path]
    rcases lt_tot _ _ with h | h | h
    · exact h
    · exact absurd h h8.2
    · rw [h8.1] at h; cases h
  · intro x
    rw [List.mem_map]
    constructor
    · rintro ⟨p, h1, rfl⟩
      exact ⟨vers_some.2 (key_mem.1 (hp.mem_iff.1 h1)), rfl⟩
    · rintro ⟨h1, h2⟩
      exact ⟨x.path, hp.mem_iff.2 (key_mem.2 (vers_some.1 h1)), h2.symm⟩

end Go.Proofs.YtlhmemnaiobgkaaGreatDoor.Se
