/- Texts in one: Ent7, VerL, Ent3, EntZ. -/
import Derived.Test.YtepcpnnnhdbjgamPk8
import Derived.Test.YtepcpnnnhdbjgamPk9
import Derived.Test.YtepcpnnnhdbjgamPk10
import Derived.Test.YtepcpnnnhdbjgamPk5
import Derived.StillTailTactics
/- Chapter 5, the specification's side: names. -/
namespace Go.Proofs.Ytepcpnnnhdbjgam.Ent
open Go.RowKit Go.Proofs.Ytepcpnnnhdbjgam.Mem Go.Proofs.Ytepcpnnnhdbjgam.Laws Go.Proofs.Ytepcpnnnhdbjgam.Bytes Go.Proofs.Ytepcpnnnhdbjgam.Sha Go.Proofs.Ytepcpnnnhdbjgam.Ver Go.Proofs.Ytepcpnnnhdbjgam.Mod
set_option linter.unusedVariables false
set_option linter.unusedSimpArgs false

/-- the name of a need, or of an entry -/
def name5 (n : Nd) : ByteArray := if n.ok = true then n.path ++ ⟨#[64]⟩ ++ Plain.txt (verText n.a n.b n.c n.pre) else ⟨#[]⟩

def nc5 (n : Nd) : Array Value := #[.string n.path, .int .i64 n.a, .int .i64 n.b, .int .i64 n.c, .string n.pre]
theorem sizeN5 (n : Nd) : (Try.prog.info? 25).map (·.size) = some (nc5 n).size := by
  show _ = some 5
  kernel_rfl
theorem oneN5 (n : Nd) : (nc5 n).all (·.oneCell') = true := by simp [nc5, Value.oneCell']
theorem rowStay5 {w w' : World} {g : Nat} {o : Obj} (h : w.heap[g]? = some o) (hb : Below w.heap.size w w') : w'.heap[g]? = some o := (hb.block g (Array.getElem?_eq_some_iff.1 h).1).trans h
def nil5 : Nd := ⟨⟨#[]⟩, 0, 0, 0, ⟨#[]⟩⟩
/-- the need whose name a text is -/
def pn (x : ByteArray) (q : (Int × Int × Int × ByteArray) × Bool) : Nd × Bool :=
  if q.2 = true ∧ fits4 x q.1.1 q.1.2.1 q.1.2.2.1 q.1.2.2.2 = true then (⟨x, q.1.1, q.1.2.1, q.1.2.2.1, q.1.2.2.2⟩, true) else (nil5, false)
def pname (s : ByteArray) : Nd × Bool := match splitT 64 s with
  | [x, y] => pn x (parseV y)
  | _ => (nil5, false)
theorem pname_no {s : ByteArray} (h : (splitT 64 s).length ≠ 2) : pname s = (nil5, false) := by
  unfold pname
  match hs : splitT 64 s with
  | [] => rfl
  | [_] => rfl
  | [_, _] => rw [hs] at h; simp at h
  | _ :: _ :: _ :: _ => rfl

theorem cut_size (t : ByteArray) : (cut t).2.size ≤ t.size := by
  unfold cut
  split
  · simp
  · exact Nat.zero_le _
theorem parse3_size (s u pr : ByteArray) : (parse3 s u pr).1.2.2.2.size ≤ pr.size := by
  unfold parse3
  split
  · split
    · exact Nat.le_refl _
    · exact Nat.zero_le _
  · exact Nat.zero_le _
theorem parseV_size (s : ByteArray) : (parseV s).1.2.2.2.size ≤ s.size := by
  unfold parseV
  split
  · refine Nat.le_trans (parse3_size _ _ _) (Nat.le_trans (cut_size _) ?_)
    simp
  · exact Nat.zero_le _
theorem region_tail5 {P : Program} {id : Nat} {Q : Exit → Act → World → Prop} {a : Act} {w : World} {l : List Oper} (n : Nat) (hm : P.follows .mixedOrders = true) (hB : Region.lexTailB .any l.toArray n = true)
    (h : wpStill P l.toArray w.drew (fun a' => wpList P l.toArray Q (l.drop n) a' w.drew) (l.take n) a) : (Code.region id l.toArray true).wp P Q a w := wp_region_still_tail n hm hB h
theorem below_row {B g : Nat} {a w : World} (h : Below B a w) (hg : B ≤ g) (cs : Array Value) : Below B a (w.setRow g cs) := below_setRow h hg cs

set_option maxRecDepth 1000000 in
set_option maxHeartbeats 2000000 in
theorem pname_spec (w : World) (s : ByteArray) (hs : s.size ≤ 1000000000) :
    Calls Try.prog 4 #[.string s] w fun e w' => e = .returned (.tuple #[.agg #[.string (pname s).1.path, .int .i64 (pname s).1.a, .int .i64 (pname s).1.b, .int .i64 (pname s).1.c, .string (pname s).1.pre], .bool (pname s).2]) ∧ Below w.heap.size w w' := by
  have HR : Hid (Nr (w.alloc (.cells #[.string ⟨#[]⟩, .int .i64 0, .int .i64 0, .int .i64 0, .string ⟨#[]⟩] 25)) w.heap.size nil5) := heap_alloc_new w _
  have HB : Hid (Below w.heap.size w (w.alloc (.cells #[.string ⟨#[]⟩, .int .i64 0, .int .i64 0, .int .i64 0, .string ⟨#[]⟩] 25))) := (Below.refl _ _).alloc (Nat.le_refl _) _
  have q0 := split_spec (w.alloc (.cells #[.string ⟨#[]⟩, .int .i64 0, .int .i64 0, .int .i64 0, .string ⟨#[]⟩] 25)) s 64 (by omega) (by omega) (by omega)
  have hTs := splitT_size 64 s
  have hTl := splitT_len 64 s
  go_enter Try.func4, Try.ntmps4
  go_wp2_with fail
  refine q0.mono ?_
  rintro e w1 ⟨v1, rfl, o1, b1⟩
  have r1 : Nr w1 w.heap.size nil5 := rowStay5 HR.out b1
  have hB1 : Below w.heap.size w w1 := HB.out.trans (b1.mono HB.out.size)
  clear q0 HR HB b1
  obtain ⟨ao, cap, rfl⟩ := Own.len o1
  rw [ss_len] at *
  by_cases h2 : (splitT 64 s).length = 2
  · have d2 : (((splitT 64 s).length : Int) != 2) = false := by simp; omega
    obtain ⟨x, y, hxy⟩ : ∃ x y, splitT 64 s = [x, y] := by
      match hT : splitT 64 s, h2 with
      | [x, y], _ => exact ⟨x, y, rfl⟩
    have hxs : x.size ≤ s.size := hTs x (by rw [hxy]; simp)
    have hys : y.size ≤ s.size := hTs y (by rw [hxy]; simp)
    have HP : Hid (pname s = pn x (parseV y)) := by show _ = _; unfold pname; rw [hxy]
    rw [hxy] at o1 ⊢
    clear hTs hTl d2 h2 hxy
    obtain ⟨g, cap', he, hg1, hg2, hcap, hc⟩ := ownForm o1 (by simp [ss])
    simp only [Value.slice.injEq, ss_len, List.length_cons, List.length_nil] at he
    obtain ⟨rfl, _, rfl⟩ := he
    have c0 : w1.cell? ⟨g, 0, none⟩ = some (.string x) := hc 0 (by simp [ss])
    have c1 : w1.cell? ⟨g, 1, none⟩ = some (.string y) := hc 1 (by simp [ss])
    clear hc o1
    have q1 := parse_spec w1 y (by omega)
    have hpz := parseV_size y
    obtain ⟨⟨a, b, c, p⟩, r, hpv⟩ : ∃ q r, parseV y = (q, r) := ⟨_, _, rfl⟩
    rw [hpv] at q1 hpz HP
    unfold verQ Ver.ver at q1
    simp only at q1 hpz
    clear hpv
    go_wp2_with fail
    refine q1.mono ?_
    rintro e w2 ⟨rfl, b2⟩
    have r2 : Nr w2 w.heap.size nil5 := rowStay5 r1 b2
    have hB2 : Below w.heap.size w w2 := hB1.trans (b2.mono hB1.size)
    have e0 := Ver.keepCell c0 b2
    have hgl := World.block_lt_of_cell? w2 _ e0
    have r3 : Nr (w2.alloc (.cells #[.int .i64 a, .int .i64 b, .int .i64 c, .string p] 23)) w.heap.size nil5 := rowStay5 r2 ((Below.refl _ _).alloc (Nat.le_refl _) _)
    have hB3 : Below w.heap.size w (w2.alloc (.cells #[.int .i64 a, .int .i64 b, .int .i64 c, .string p] 23)) := hB2.alloc hB2.size _
    have V3 : Vr (w2.alloc (.cells #[.int .i64 a, .int .i64 b, .int .i64 c, .string p] 23)) w2.heap.size a b c p := heap_alloc_new w2 _
    have f0 := Ver.keepCell e0 ((Below.refl _ _).alloc (Nat.le_refl _) (.cells #[.int .i64 a, .int .i64 b, .int .i64 c, .string p] 23))
    obtain ⟨m0, m1, m2, m3⟩ := Vr.cells V3
    have HR3 : Hid _ := r3
    have HB3 : Hid _ := hB3
    have hlt : w.heap.size < w2.heap.size := (Array.getElem?_eq_some_iff.1 r2).1
    clear c0 c1 q1 r1 r2 hB1 hB2 b2 e0 V3 r3 hB3
    obtain ⟨W3, hW3⟩ : ∃ W3, w2.alloc (.cells #[.int .i64 a, .int .i64 b, .int .i64 c, .string p] 23) = W3 := ⟨_, rfl⟩
    have HW3 : Hid _ := hW3
    rw [hW3] at HR3 HB3 f0 m0 m1 m2 m3
    clear hW3
    cases r
    · have HN : Hid (pname s = (nil5, false)) := by show _ = _; rw [HP.out]; unfold pn; simp
      clear HP
      go_wp2_with fail
      rw [HW3.out]
      refine wp_region_held_drew (S := fun w' => w'.cell? ⟨g, 0, none⟩ = some (.string x) ∧ w'.cell? ⟨w2.heap.size, 0, none⟩ = some (.int .i64 a) ∧ w'.cell? ⟨w2.heap.size, 1, none⟩ = some (.int .i64 b) ∧ w'.cell? ⟨w2.heap.size, 2, none⟩ = some (.int .i64 c) ∧ w'.cell? ⟨w2.heap.size, 3, none⟩ = some (.string p)) (by kernel_rfl) ⟨f0, m0, m1, m2, m3⟩ (fun hHeld => ?_)
      (refine wpAnyH_take (i := 0) (v := ?v0x1) rfl (by kernel_rfl) (by kernel_rfl) (by kernel_rfl) (fun _ _ _ h => h) (Or.inl ⟨by rfl, ?hy0x1⟩) (by assumption) ?rest0x1; case hy0x1 => (intro w hSw; (try dsimp only at hSw); go_split_ands; go_simp; (try with_reducible rfl)))
      try simp only [Act.put, List.setIfInBounds_toArray, List.set_cons_zero, List.set_cons_succ, List.getElem_toArray, List.getElem_cons_zero, List.getElem_cons_succ]
      (refine wpAnyH_take (i := 1) (v := ?v1x2) rfl (by kernel_rfl) (by kernel_rfl) (by kernel_rfl) (fun _ _ _ h => h) (Or.inl ⟨by rfl, ?hy1x2⟩) (by assumption) ?rest1x2; case hy1x2 => (intro w hSw; (try dsimp only at hSw); go_split_ands; go_simp; (try with_reducible rfl)))
      try simp only [Act.put, List.setIfInBounds_toArray, List.set_cons_zero, List.set_cons_succ, List.getElem_toArray, List.getElem_cons_zero, List.getElem_cons_succ]
      (refine wpAnyH_take (i := 2) (v := ?v2x3) rfl (by kernel_rfl) (by kernel_rfl) (by kernel_rfl) (fun _ _ _ h => h) (Or.inl ⟨by rfl, ?hy2x3⟩) (by assumption) ?rest2x3; case hy2x3 => (intro w hSw; (try dsimp only at hSw); go_split_ands; go_simp; (try with_reducible rfl)))
      try simp only [Act.put, List.setIfInBounds_toArray, List.set_cons_zero, List.set_cons_succ, List.getElem_toArray, List.getElem_cons_zero, List.getElem_cons_succ]
      (refine wpAnyH_take (i := 3) (v := undef) rfl (by kernel_rfl) (by kernel_rfl) (by kernel_rfl) (fun _ _ _ h => h) (Or.inr ⟨by rfl, rfl⟩) (by assumption) ?_)
      try simp only [Act.put, List.setIfInBounds_toArray, List.set_cons_zero, List.set_cons_succ, List.getElem_toArray, List.getElem_cons_zero, List.getElem_cons_succ]
      (refine wpAnyH_take (i := 4) (v := undef) rfl (by kernel_rfl) (by kernel_rfl) (by kernel_rfl) (fun _ _ _ h => h) (Or.inr ⟨by rfl, rfl⟩) (by assumption) ?_)
      try simp only [Act.put, List.setIfInBounds_toArray, List.set_cons_zero, List.set_cons_succ, List.getElem_toArray, List.getElem_cons_zero, List.getElem_cons_succ]
      (refine wpAnyH_take (i := 5) (v := undef) rfl (by kernel_rfl) (by kernel_rfl) (by kernel_rfl) (fun _ _ _ h => h) (Or.inr ⟨by rfl, rfl⟩) (by assumption) ?_)
      try simp only [Act.put, List.setIfInBounds_toArray, List.set_cons_zero, List.set_cons_succ, List.getElem_toArray, List.getElem_cons_zero, List.getElem_cons_succ]
      (refine wpAnyH_take (i := 6) (v := undef) rfl (by kernel_rfl) (by kernel_rfl) (by kernel_rfl) (fun _ _ _ h => h) (Or.inr ⟨by rfl, rfl⟩) (by assumption) ?_)
      try simp only [Act.put, List.setIfInBounds_toArray, List.set_cons_zero, List.set_cons_succ, List.getElem_toArray, List.getElem_cons_zero, List.getElem_cons_succ]
      (refine wpAnyH_take (i := 7) (v := undef) rfl (by kernel_rfl) (by kernel_rfl) (by kernel_rfl) (fun _ _ _ h => h) (Or.inr ⟨by rfl, rfl⟩) (by assumption) ?_)
      try simp only [Act.put, List.setIfInBounds_toArray, List.set_cons_zero, List.set_cons_succ, List.getElem_toArray, List.getElem_cons_zero, List.getElem_cons_succ]
      (refine wpAnyH_take (i := 8) (v := undef) rfl (by kernel_rfl) (by kernel_rfl) (by kernel_rfl) (fun _ _ _ h => h) (Or.inr ⟨by rfl, rfl⟩) (by assumption) ?_)
      try simp only [Act.put, List.setIfInBounds_toArray, List.set_cons_zero, List.set_cons_succ, List.getElem_toArray, List.getElem_cons_zero, List.getElem_cons_succ]
      (refine wpAnyH_take (i := 9) (v := ?v9x10) rfl (by kernel_rfl) (by kernel_rfl) (by kernel_rfl) (fun _ _ _ h => h) (Or.inl ⟨by rfl, ?hy9x10⟩) (by assumption) ?rest9x10; case hy9x10 => (intro w hSw; (try dsimp only at hSw); go_split_ands; go_simp; (try with_reducible rfl)))
      try simp only [Act.put, List.setIfInBounds_toArray, List.set_cons_zero, List.set_cons_succ, List.getElem_toArray, List.getElem_cons_zero, List.getElem_cons_succ]
      refine wpAnyH_done (by kernel_rfl) ?_ _
      have HB4 : Hid (Below w.heap.size w W3.drew) := Below.drew HB3.out
      clear hHeld
      go_wp2_with (refine wpList_store_row rfl 25 _ _ rfl w.heap.size (nc5 nil5) rfl rfl 25 _ HR3.out (sizeN5 nil5) rfl (oneN5 nil5) ?_)
      exact bodyPost_ret (results_row_tmp rfl _ _ w.heap.size 25 (nc5 nil5) (0, 0) _ rfl (setRow_heap _ _ _ _ _ (0, 0) HR3.out) Try.underlying25 rfl (sizeN5 nil5)) rfl ⟨by rw [HN.out]; rfl, below_setRow HB4.out (Nat.le_refl _) _⟩
    · have q4 : ∀ W, _ := fun W => fits_spec W x a b c p (by omega) (by omega)
      unfold Ver.ver at q4
      obtain ⟨f, hf⟩ : ∃ f, fits4 x a b c p = f := ⟨_, rfl⟩
      simp only [hf] at q4
      have HN : Hid (pname s = if f = true then (⟨x, a, b, c, p⟩, true) else (nil5, false)) := by
        show _ = _
        rw [HP.out]
        unfold pn
        simp only [hf, true_and]
      clear HP hf
      cases f
      · have HF : Hid (pname s = (nil5, false)) := HN.out
        clear HN
        go_wp2_with fail
        rw [HW3.out]
        refine wp_region_held_drew (S := fun w' => w'.cell? ⟨g, 0, none⟩ = some (.string x) ∧ w'.cell? ⟨w2.heap.size, 0, none⟩ = some (.int .i64 a) ∧ w'.cell? ⟨w2.heap.size, 1, none⟩ = some (.int .i64 b) ∧ w'.cell? ⟨w2.heap.size, 2, none⟩ = some (.int .i64 c) ∧ w'.cell? ⟨w2.heap.size, 3, none⟩ = some (.string p)) (by kernel_rfl) ⟨f0, m0, m1, m2, m3⟩ (fun hHeld => ?_)
        (refine wpAnyH_take (i := 0) (v := ?v0x11) rfl (by kernel_rfl) (by kernel_rfl) (by kernel_rfl) (fun _ _ _ h => h) (Or.inl ⟨by rfl, ?hy0x11⟩) (by assumption) ?rest0x11; case hy0x11 => (intro w hSw; (try dsimp only at hSw); go_split_ands; go_simp; (try with_reducible rfl)))
        try simp only [Act.put, List.setIfInBounds_toArray, List.set_cons_zero, List.set_cons_succ, List.getElem_toArray, List.getElem_cons_zero, List.getElem_cons_succ]
        (refine wpAnyH_take (i := 1) (v := ?v1x12) rfl (by kernel_rfl) (by kernel_rfl) (by kernel_rfl) (fun _ _ _ h => h) (Or.inl ⟨by rfl, ?hy1x12⟩) (by assumption) ?rest1x12; case hy1x12 => (intro w hSw; (try dsimp only at hSw); go_split_ands; go_simp; (try with_reducible rfl)))
        try simp only [Act.put, List.setIfInBounds_toArray, List.set_cons_zero, List.set_cons_succ, List.getElem_toArray, List.getElem_cons_zero, List.getElem_cons_succ]
        (refine wpAnyH_take (i := 2) (v := ?v2x13) rfl (by kernel_rfl) (by kernel_rfl) (by kernel_rfl) (fun _ _ _ h => h) (Or.inl ⟨by rfl, ?hy2x13⟩) (by assumption) ?rest2x13; case hy2x13 => (intro w hSw; (try dsimp only at hSw); go_split_ands; go_simp; (try with_reducible rfl)))
        try simp only [Act.put, List.setIfInBounds_toArray, List.set_cons_zero, List.set_cons_succ, List.getElem_toArray, List.getElem_cons_zero, List.getElem_cons_succ]
        (refine wpAnyH_take (i := 3) (v := ?v3x14) rfl (by kernel_rfl) (by kernel_rfl) (by kernel_rfl) (fun _ _ _ h => h) (Or.inl ⟨by rfl, ?hy3x14⟩) (by assumption) ?rest3x14; case hy3x14 => (intro w hSw; (try dsimp only at hSw); go_split_ands; go_simp; (try with_reducible rfl)))
        try simp only [Act.put, List.setIfInBounds_toArray, List.set_cons_zero, List.set_cons_succ, List.getElem_toArray, List.getElem_cons_zero, List.getElem_cons_succ]
        (refine wpAnyH_take (i := 4) (v := ?v4x15) rfl (by kernel_rfl) (by kernel_rfl) (by kernel_rfl) (fun _ _ _ h => h) (Or.inl ⟨by rfl, ?hy4x15⟩) (by assumption) ?rest4x15; case hy4x15 => (intro w hSw; (try dsimp only at hSw); go_split_ands; go_simp; (try with_reducible rfl)))
        try simp only [Act.put, List.setIfInBounds_toArray, List.set_cons_zero, List.set_cons_succ, List.getElem_toArray, List.getElem_cons_zero, List.getElem_cons_succ]
        (refine wpAnyH_take (i := 5) (v := ?v5x16) rfl (by kernel_rfl) (by kernel_rfl) (by kernel_rfl) (fun _ _ _ h => h) (Or.inl ⟨by rfl, ?hy5x16⟩) (by assumption) ?rest5x16; case hy5x16 => (intro w hSw; (try dsimp only at hSw); go_split_ands; go_simp; (try with_reducible rfl)))
        try simp only [Act.put, List.setIfInBounds_toArray, List.set_cons_zero, List.set_cons_succ, List.getElem_toArray, List.getElem_cons_zero, List.getElem_cons_succ]
        (refine wpAnyH_take (i := 6) (v := ?v6x17) rfl (by kernel_rfl) (by kernel_rfl) (by kernel_rfl) (fun _ _ _ h => h) (Or.inl ⟨by rfl, ?hy6x17⟩) (by assumption) ?rest6x17; case hy6x17 => (intro w hSw; (try dsimp only at hSw); go_split_ands; go_simp; (try with_reducible rfl)))
        try simp only [Act.put, List.setIfInBounds_toArray, List.set_cons_zero, List.set_cons_succ, List.getElem_toArray, List.getElem_cons_zero, List.getElem_cons_succ]
        refine wpAnyH_ready (rs := [7]) (by kernel_rfl) (by simp) ?_
        refine AllReadyH.cons rfl (fun K hK => ?_) AllReadyH.nil
        go_simp
        refine (q4 _).mono ?_
        rintro e w4 ⟨rfl, b4⟩
        refine hK.out _ _ ?_ (fun hHeld => ?_)
        · obtain ⟨s0, s1, s2, s3, s4⟩ := hHeld; exact ⟨Ver.keepCell s0 b4, Ver.keepCell s1 b4, Ver.keepCell s2 b4, Ver.keepCell s3 b4, Ver.keepCell s4 b4⟩
        clear hK K
        try simp only [Act.put, List.setIfInBounds_toArray, List.set_cons_zero, List.set_cons_succ, List.getElem_toArray, List.getElem_cons_zero, List.getElem_cons_succ]
        (refine wpAnyH_take (i := 8) (v := ?v8x18) rfl (by kernel_rfl) (by kernel_rfl) (by kernel_rfl) (fun _ _ _ h => h) (Or.inl ⟨by rfl, ?hy8x18⟩) (by assumption) ?rest8x18; case hy8x18 => (intro w hSw; (try dsimp only at hSw); go_split_ands; go_simp; (try with_reducible rfl)))
        try simp only [Act.put, List.setIfInBounds_toArray, List.set_cons_zero, List.set_cons_succ, List.getElem_toArray, List.getElem_cons_zero, List.getElem_cons_succ]
        (refine wpAnyH_take (i := 9) (v := ?v9x19) rfl (by kernel_rfl) (by kernel_rfl) (by kernel_rfl) (fun _ _ _ h => h) (Or.inl ⟨by rfl, ?hy9x19⟩) (by assumption) ?rest9x19; case hy9x19 => (intro w hSw; (try dsimp only at hSw); go_split_ands; go_simp; (try with_reducible rfl)))
        try simp only [Act.put, List.setIfInBounds_toArray, List.set_cons_zero, List.set_cons_succ, List.getElem_toArray, List.getElem_cons_zero, List.getElem_cons_succ]
        refine wpAnyH_done (by kernel_rfl) ?_ _
        have r4 : Nr w4 w.heap.size nil5 := rowStay5 (w := W3.drew) HR3.out b4
        have HB4 : Hid (Below w.heap.size w w4) := (Below.drew HB3.out).trans (b4.mono HB3.out.size)
        clear hHeld
        go_wp2_with (refine wpList_store_row rfl 25 _ _ rfl w.heap.size (nc5 nil5) rfl rfl 25 _ r4 (sizeN5 nil5) rfl (oneN5 nil5) ?_)
        exact bodyPost_ret (results_row_tmp rfl _ _ w.heap.size 25 (nc5 nil5) (0, 0) _ rfl (setRow_heap _ _ _ _ _ (0, 0) r4) Try.underlying25 rfl (sizeN5 nil5)) rfl ⟨by rw [HF.out]; rfl, below_setRow HB4.out (Nat.le_refl _) _⟩
      · have HF : Hid (pname s = (⟨x, a, b, c, p⟩, true)) := HN.out
        clear HN
        go_wp2_with fail
        rw [HW3.out]
        refine wp_region_held_drew (S := fun w' => w'.cell? ⟨g, 0, none⟩ = some (.string x) ∧ w'.cell? ⟨w2.heap.size, 0, none⟩ = some (.int .i64 a) ∧ w'.cell? ⟨w2.heap.size, 1, none⟩ = some (.int .i64 b) ∧ w'.cell? ⟨w2.heap.size, 2, none⟩ = some (.int .i64 c) ∧ w'.cell? ⟨w2.heap.size, 3, none⟩ = some (.string p)) (by kernel_rfl) ⟨f0, m0, m1, m2, m3⟩ (fun hHeld => ?_)
        (refine wpAnyH_take (i := 0) (v := ?v0x20) rfl (by kernel_rfl) (by kernel_rfl) (by kernel_rfl) (fun _ _ _ h => h) (Or.inl ⟨by rfl, ?hy0x20⟩) (by assumption) ?rest0x20; case hy0x20 => (intro w hSw; (try dsimp only at hSw); go_split_ands; go_simp; (try with_reducible rfl)))
        try simp only [Act.put, List.setIfInBounds_toArray, List.set_cons_zero, List.set_cons_succ, List.getElem_toArray, List.getElem_cons_zero, List.getElem_cons_succ]
        (refine wpAnyH_take (i := 1) (v := ?v1x21) rfl (by kernel_rfl) (by kernel_rfl) (by kernel_rfl) (fun _ _ _ h => h) (Or.inl ⟨by rfl, ?hy1x21⟩) (by assumption) ?rest1x21; case hy1x21 => (intro w hSw; (try dsimp only at hSw); go_split_ands; go_simp; (try with_reducible rfl)))
        try simp only [Act.put, List.setIfInBounds_toArray, List.set_cons_zero, List.set_cons_succ, List.getElem_toArray, List.getElem_cons_zero, List.getElem_cons_succ]
        (refine wpAnyH_take (i := 2) (v := ?v2x22) rfl (by kernel_rfl) (by kernel_rfl) (by kernel_rfl) (fun _ _ _ h => h) (Or.inl ⟨by rfl, ?hy2x22⟩) (by assumption) ?rest2x22; case hy2x22 => (intro w hSw; (try dsimp only at hSw); go_split_ands; go_simp; (try with_reducible rfl)))
        try simp only [Act.put, List.setIfInBounds_toArray, List.set_cons_zero, List.set_cons_succ, List.getElem_toArray, List.getElem_cons_zero, List.getElem_cons_succ]
        (refine wpAnyH_take (i := 3) (v := ?v3x23) rfl (by kernel_rfl) (by kernel_rfl) (by kernel_rfl) (fun _ _ _ h => h) (Or.inl ⟨by rfl, ?hy3x23⟩) (by assumption) ?rest3x23; case hy3x23 => (intro w hSw; (try dsimp only at hSw); go_split_ands; go_simp; (try with_reducible rfl)))
        try simp only [Act.put, List.setIfInBounds_toArray, List.set_cons_zero, List.set_cons_succ, List.getElem_toArray, List.getElem_cons_zero, List.getElem_cons_succ]
        (refine wpAnyH_take (i := 4) (v := ?v4x24) rfl (by kernel_rfl) (by kernel_rfl) (by kernel_rfl) (fun _ _ _ h => h) (Or.inl ⟨by rfl, ?hy4x24⟩) (by assumption) ?rest4x24; case hy4x24 => (intro w hSw; (try dsimp only at hSw); go_split_ands; go_simp; (try with_reducible rfl)))
        try simp only [Act.put, List.setIfInBounds_toArray, List.set_cons_zero, List.set_cons_succ, List.getElem_toArray, List.getElem_cons_zero, List.getElem_cons_succ]
        (refine wpAnyH_take (i := 5) (v := ?v5x25) rfl (by kernel_rfl) (by kernel_rfl) (by kernel_rfl) (fun _ _ _ h => h) (Or.inl ⟨by rfl, ?hy5x25⟩) (by assumption) ?rest5x25; case hy5x25 => (intro w hSw; (try dsimp only at hSw); go_split_ands; go_simp; (try with_reducible rfl)))
        try simp only [Act.put, List.setIfInBounds_toArray, List.set_cons_zero, List.set_cons_succ, List.getElem_toArray, List.getElem_cons_zero, List.getElem_cons_succ]
        (refine wpAnyH_take (i := 6) (v := ?v6x26) rfl (by kernel_rfl) (by kernel_rfl) (by kernel_rfl) (fun _ _ _ h => h) (Or.inl ⟨by rfl, ?hy6x26⟩) (by assumption) ?rest6x26; case hy6x26 => (intro w hSw; (try dsimp only at hSw); go_split_ands; go_simp; (try with_reducible rfl)))
        try simp only [Act.put, List.setIfInBounds_toArray, List.set_cons_zero, List.set_cons_succ, List.getElem_toArray, List.getElem_cons_zero, List.getElem_cons_succ]
        refine wpAnyH_ready (rs := [7]) (by kernel_rfl) (by simp) ?_
        refine AllReadyH.cons rfl (fun K hK => ?_) AllReadyH.nil
        go_simp
        refine (q4 _).mono ?_
        rintro e w4 ⟨rfl, b4⟩
        refine hK.out _ _ ?_ (fun hHeld => ?_)
        · obtain ⟨s0, s1, s2, s3, s4⟩ := hHeld; exact ⟨Ver.keepCell s0 b4, Ver.keepCell s1 b4, Ver.keepCell s2 b4, Ver.keepCell s3 b4, Ver.keepCell s4 b4⟩
        clear hK K
        try simp only [Act.put, List.setIfInBounds_toArray, List.set_cons_zero, List.set_cons_succ, List.getElem_toArray, List.getElem_cons_zero, List.getElem_cons_succ]
        (refine wpAnyH_take (i := 8) (v := ?v8x27) rfl (by kernel_rfl) (by kernel_rfl) (by kernel_rfl) (fun _ _ _ h => h) (Or.inl ⟨by rfl, ?hy8x27⟩) (by assumption) ?rest8x27; case hy8x27 => (intro w hSw; (try dsimp only at hSw); go_split_ands; go_simp; (try with_reducible rfl)))
        try simp only [Act.put, List.setIfInBounds_toArray, List.set_cons_zero, List.set_cons_succ, List.getElem_toArray, List.getElem_cons_zero, List.getElem_cons_succ]
        (refine wpAnyH_take (i := 9) (v := ?v9x28) rfl (by kernel_rfl) (by kernel_rfl) (by kernel_rfl) (fun _ _ _ h => h) (Or.inl ⟨by rfl, ?hy9x28⟩) (by assumption) ?rest9x28; case hy9x28 => (intro w hSw; (try dsimp only at hSw); go_split_ands; go_simp; (try with_reducible rfl)))
        try simp only [Act.put, List.setIfInBounds_toArray, List.set_cons_zero, List.set_cons_succ, List.getElem_toArray, List.getElem_cons_zero, List.getElem_cons_succ]
        refine wpAnyH_done (by kernel_rfl) ?_ _
        have r4 : Nr w4 w.heap.size nil5 := rowStay5 (w := W3.drew) HR3.out b4
        have HB4 : Hid (Below w.heap.size w w4) := (Below.drew HB3.out).trans (b4.mono HB3.out.size)
        obtain ⟨n0, n1, n2, n3, n4⟩ := hHeld
        go_wp2_with fail
        refine region_tail5 5 (by kernel_rfl) (by kernel_rfl) ?_
        simp only [List.take_succ_cons, List.take_zero, List.drop_succ_cons, List.drop_zero]
        repeat still_step
        refine wpStill_nil ?_
        have r5 : w4.drew.heap[w.heap.size]? = some (.cells (nc5 nil5) 25 (0, 0)) := r4
        have HR5 : Hid _ := r5
        clear r4 r5 hHeld
        go_wp2_with (refine wpList_store_row rfl 25 _ _ rfl w.heap.size (nc5 ⟨x, a, b, c, p⟩) rfl rfl 25 _ HR5.out (sizeN5 ⟨x, a, b, c, p⟩) rfl (oneN5 ⟨x, a, b, c, p⟩) ?_)
        exact bodyPost_ret (results_row_tmp rfl _ _ w.heap.size 25 (nc5 ⟨x, a, b, c, p⟩) (0, 0) _ rfl (setRow_heap _ _ _ _ _ (0, 0) HR5.out) Try.underlying25 rfl (sizeN5 ⟨x, a, b, c, p⟩)) rfl ⟨by rw [HF.out]; rfl, below_setRow (Below.drew HB4.out) (Nat.le_refl _) _⟩
  · have d2 : (((splitT 64 s).length : Int) != 2) = true := by simp; omega
    have HN : Hid (pname s = (nil5, false)) := pname_no h2
    clear h2 o1
    go_wp2_with (refine wpList_store_row rfl 25 _ _ rfl w.heap.size (nc5 nil5) rfl rfl 25 _ r1 (sizeN5 nil5) rfl (oneN5 nil5) ?_)
    exact bodyPost_ret (results_row_tmp rfl _ _ w.heap.size 25 (nc5 nil5) (0, 0) _ rfl (setRow_heap _ _ _ _ _ (0, 0) r1) Try.underlying25 rfl (sizeN5 nil5)) rfl ⟨by rw [HN.out]; rfl, below_setRow hB1 (Nat.le_refl _) _⟩

end Go.Proofs.Ytepcpnnnhdbjgam.Ent

/- The laws' helpers of chapter 3: a version's size, its turning, whether two are the same. -/
namespace Go.Proofs.Ytepcpnnnhdbjgam.Ver
open Go.RowKit Go.Proofs.Ytepcpnnnhdbjgam.Mem Go.Proofs.Ytepcpnnnhdbjgam.Laws Go.Proofs.Ytepcpnnnhdbjgam.Bytes Go.Proofs.Ytepcpnnnhdbjgam.Sha
set_option linter.unusedVariables false
set_option linter.unusedSimpArgs false

set_option maxRecDepth 1000000 in
set_option maxHeartbeats 1000000 in
theorem eq_same (w : World) (a b c : Int) (p : ByteArray) :
    Calls Try.prog 14 #[ver a b c p, ver a b c p] w fun e w' => e = .returned (.bool true) ∧ Below w.heap.size w w' := by
  have HB : Hid (Below w.heap.size w ((w.alloc (.cells #[.int .i64 a, .int .i64 b, .int .i64 c, .string p] 23)).alloc (.cells #[.int .i64 a, .int .i64 b, .int .i64 c, .string p] 23))) := ((Below.refl _ _).alloc (Nat.le_refl _) _).alloc (by simp) _
  have n1 : (a != a) = false := by simp
  have n2 : (b != b) = false := by simp
  have n3 : (c != c) = false := by simp
  have n4 : (p.toList == p.toList) = true := by simp
  unfold ver
  go_enter Try.func14, Try.ntmps14
  go_wp2
  go_ret
  exact ⟨rfl, HB.out⟩

end Go.Proofs.Ytepcpnnnhdbjgam.Ver

/- Chapter 5, the laws' helpers: a need's size, its turning, whether two are the same; lists of needs. -/
namespace Go.Proofs.Ytepcpnnnhdbjgam.Ent
open Go.RowKit Go.Proofs.Ytepcpnnnhdbjgam.Mem Go.Proofs.Ytepcpnnnhdbjgam.Laws Go.Proofs.Ytepcpnnnhdbjgam.Bytes Go.Proofs.Ytepcpnnnhdbjgam.Sha Go.Proofs.Ytepcpnnnhdbjgam.Ver Go.Proofs.Ytepcpnnnhdbjgam.Mod
set_option linter.unusedVariables false
set_option linter.unusedSimpArgs false

def nc (n : Nd) : Array Value := #[.string n.path, .int .i64 n.a, .int .i64 n.b, .int .i64 n.c, .string n.pre]
theorem sizeN (n : Nd) : (Try.prog.info? 25).map (·.size) = some (nc n).size := by
  show _ = some 5
  kernel_rfl
theorem sizeV4 (a b c : Int) (p : ByteArray) : (Try.prog.info? 23).map (·.size) = some (vc a b c p).size := by
  show _ = some 4
  kernel_rfl
theorem oneN (n : Nd) : (nc n).all (·.oneCell') = true := by simp [nc, Value.oneCell']
theorem row_cells {w : World} {g : Nat} {cs : Array Value} {t : TypeId} {fr : Nat × Nat} (h : w.heap[g]? = some (.cells cs t fr)) (j : Nat) : w.cell? ⟨g, j, none⟩ = cs[j]? := by simp [World.cell?, h]

theorem infoN : (Try.prog.info? 25).map (fun i => (i.zero, i.size, i.bytes)) = some (some (.agg #[.string ⟨#[]⟩, .int .i64 0, .int .i64 0, .int .i64 0, .string ⟨#[]⟩]), 5, 56) := by kernel_rfl

set_option maxRecDepth 1000000 in
set_option maxHeartbeats 1000000 in
theorem eq_need (w : World) (n : Nd) :
    Calls Try.prog 6 #[.agg #[.string n.path, .int .i64 n.a, .int .i64 n.b, .int .i64 n.c, .string n.pre], .agg #[.string n.path, .int .i64 n.a, .int .i64 n.b, .int .i64 n.c, .string n.pre]] w fun e w' => e = .returned (.bool true) ∧ Below w.heap.size w w' := by
  have q : ∀ W, _ := fun W => eq_same W n.a n.b n.c n.pre
  unfold Ver.ver at q
  have HB : Hid (Below w.heap.size w ((w.alloc (.cells #[.string n.path, .int .i64 n.a, .int .i64 n.b, .int .i64 n.c, .string n.pre] 25)).alloc (.cells #[.string n.path, .int .i64 n.a, .int .i64 n.b, .int .i64 n.c, .string n.pre] 25))) := ((Below.refl _ _).alloc (Nat.le_refl _) _).alloc (by simp) _
  have n1 : (n.path.toList == n.path.toList) = true := by simp
  go_enter Try.func6, Try.ntmps6
  go_wp2_with (go_at_call 14; refine (q _).mono ?_; rintro e W1 ⟨rfl, b1⟩)
  go_ret
  exact ⟨rfl, HB.out.trans (b1.mono HB.out.size)⟩

end Go.Proofs.Ytepcpnnnhdbjgam.Ent

/- Chapter 5: the exact law of reading names, over a contract of the landed function. -/
namespace Go.Proofs.Ytepcpnnnhdbjgam.Ent
open Go.RowKit Go.Proofs.Ytepcpnnnhdbjgam.Mem Go.Proofs.Ytepcpnnnhdbjgam.Laws Go.Proofs.Ytepcpnnnhdbjgam.Bytes Go.Proofs.Ytepcpnnnhdbjgam.Sha Go.Proofs.Ytepcpnnnhdbjgam.Ver Go.Proofs.Ytepcpnnnhdbjgam.Mod
set_option linter.unusedVariables false
set_option linter.unusedSimpArgs false

set_option maxRecDepth 1000000 in
set_option maxHeartbeats 1000000 in
theorem exact_pname (w : World) (s : ByteArray) (hm : s.size ≤ maxLen)
    (iP : ∀ W, Below w.heap.size w W → s.size ≤ 1048576 → Calls Try.prog 5 #[.string s] W fun e w' => e = .returned (.tuple #[.agg #[.string (pname s).1.path, .int .i64 (pname s).1.a, .int .i64 (pname s).1.b, .int .i64 (pname s).1.c, .string (pname s).1.pre], .bool (pname s).2]) ∧ Below W.heap.size W w') :
    Calls Try.prog 3 #[.string s] w fun e w' => e = .returned (.bool true) ∧ Below w.heap.size w w' := by
  unfold maxLen at hm
  by_cases hbig : 1048576 < s.size
  · have hb : (1048576 : Int) < (s.size : Int) := by omega
    clear hbig iP
    go_enter Try.func3, Try.ntmps3
    go_wp2
    go_ret
    exact ⟨rfl, Below.refl _ _⟩
  · have hb : ¬ (1048576 : Int) < (s.size : Int) := by omega
    have q1 := pname_spec w s (by omega)
    have q2 : ∀ W, Below w.heap.size w W → _ := fun W h => iP W h (by omega)
    obtain ⟨n, g, hn⟩ : ∃ n g, pname s = (n, g) := ⟨_, _, rfl⟩
    rw [hn] at q1
    simp only [hn] at q1 q2
    have q3 : ∀ W, _ := fun W => eq_need W n
    clear hn hbig iP
    go_enter Try.func3, Try.ntmps3
    go_wp2_with fail
    refine q1.mono ?_
    rintro e W1 ⟨rfl, b1⟩
    obtain ⟨W2, HW2, HR2, HB2⟩ : ∃ W2, Hid (W1.alloc (.cells #[.string n.path, .int .i64 n.a, .int .i64 n.b, .int .i64 n.c, .string n.pre] 25) = W2) ∧ Hid (Nr W2 W1.heap.size n) ∧ Hid (Below w.heap.size w W2) := ⟨_, rfl, heap_alloc_new W1 _, b1.alloc b1.size _⟩
    have q4 := q2 W2 HB2.out
    rw [← HW2.out] at q4
    clear q1 q2 b1
    go_wp2_with fail
    refine q4.mono ?_
    rw [HW2.out]
    rintro e W3 ⟨rfl, b3⟩
    obtain ⟨W4, HW4, HR4, HR5, HB4⟩ : ∃ W4, Hid (W3.alloc (.cells #[.string n.path, .int .i64 n.a, .int .i64 n.b, .int .i64 n.c, .string n.pre] 25) = W4) ∧ Hid (Nr W4 W1.heap.size n) ∧ Hid (Nr W4 W3.heap.size n) ∧ Hid (Below w.heap.size w W4) := by
      have hb := HB2.out.trans (b3.mono HB2.out.size)
      exact ⟨_, rfl, rowKeep (rowKeep HR2.out b3) ((Below.refl _ _).alloc (Nat.le_refl _) _), heap_alloc_new W3 _, hb.alloc hb.size _⟩
    clear q4 HW2 HR2 HB2 b3
    obtain ⟨k0, k1, k2, k3, k4⟩ := Nr.cells HR4.out
    obtain ⟨m0, m1, m2, m3, m4⟩ := Nr.cells HR5.out
    have q5 := q3 W4
    rw [← HW4.out] at k0 k1 k2 k3 k4 m0 m1 m2 m3 m4 q5
    go_wp2_with fail
    refine q5.mono ?_
    rw [HW4.out]
    rintro e W5 ⟨rfl, b5⟩
    have HB5 : Hid (Below w.heap.size w W5) := HB4.out.trans (b5.mono HB4.out.size)
    clear k0 k1 k2 k3 k4 m0 m1 m2 m3 m4 q5 q3 b5 HB4 HR4 HR5 HW4
    cases g
    · go_wp2_with fail
      go_ret
      exact ⟨rfl, HB5.out⟩
    · go_wp2_with fail
      go_ret
      exact ⟨rfl, HB5.out⟩

end Go.Proofs.Ytepcpnnnhdbjgam.Ent
