/- Texts in one: Ent7, Draw, Draw3, Draw4, Draw5, Mod7, Mod8. -/
import Derived.Test.YtljlcelbhlkmcabGreatDoorPk8
import Derived.Test.YtljlcelbhlkmcabGreatDoorPk9
import Derived.Test.YtljlcelbhlkmcabGreatDoorPk10
import Derived.Test.YtljlcelbhlkmcabGreatDoorPk5
import Derived.Test.YtljlcelbhlkmcabGreatDoorPk2
import Derived.Test.YtljlcelbhlkmcabGreatDoorPk3
import Derived.Test.YtljlcelbhlkmcabGreatDoorPk7
import Derived.StillTailTactics
import Derived.Deep.RegionWith
import Derived.Deep.QuietTactic
/- Chapter 5, the specification's side: names. -/
namespace Go.Proofs.YtljlcelbhlkmcabGreatDoor.Ent
open Go.RowKit Go.Proofs.YtljlcelbhlkmcabGreatDoor.Mem Go.Proofs.YtljlcelbhlkmcabGreatDoor.Laws Go.Proofs.YtljlcelbhlkmcabGreatDoor.Bytes Go.Proofs.YtljlcelbhlkmcabGreatDoor.Sha Go.Proofs.YtljlcelbhlkmcabGreatDoor.Ver Go.Proofs.YtljlcelbhlkmcabGreatDoor.Mod
set_option linter.unusedVariables false
set_option linter.unusedSimpArgs false

/-- the name of a need, or of an entry -/
def name5 (n : Nd) : ByteArray := if n.ok = true then n.path ++ ⟨#[64]⟩ ++ Plain.txt (verText n.a n.b n.c n.pre) else ⟨#[]⟩

set_option maxRecDepth 1000000 in
set_option maxHeartbeats 1000000 in
theorem name_spec (w : World) (n : Nd) (hp : n.path.size ≤ 1000000000) (hq : n.pre.size ≤ 1000000000) :
    Calls Tryz.prog 45 #[.string n.path, .agg #[.int .i64 n.a, .int .i64 n.b, .int .i64 n.c, .string n.pre]] w fun e w' => e = .returned (.string (name5 n)) ∧ Below w.heap.size w w' := by
  have HD : Hid (name5 n = if n.ok = true then n.path ++ ⟨#[64]⟩ ++ Plain.txt (verText n.a n.b n.c n.pre) else ⟨#[]⟩) := rfl
  have q1 := fits_spec (w.alloc (.cells #[.int .i64 n.a, .int .i64 n.b, .int .i64 n.c, .string n.pre] 25)) n.path n.a n.b n.c n.pre (by omega) (by omega)
  have q2 : ∀ W, _ := fun W => vtext_spec W n.a n.b n.c n.pre (by omega)
  unfold Ver.ver at q1 q2
  have HR : Hid (Vr (w.alloc (.cells #[.int .i64 n.a, .int .i64 n.b, .int .i64 n.c, .string n.pre] 25)) w.heap.size n.a n.b n.c n.pre) := heap_alloc_new w _
  have HB : Hid (Below w.heap.size w (w.alloc (.cells #[.int .i64 n.a, .int .i64 n.b, .int .i64 n.c, .string n.pre] 25))) := (Below.refl _ _).alloc (Nat.le_refl _) _
  obtain ⟨ok, hok⟩ : ∃ ok, n.ok = ok := ⟨_, rfl⟩
  have hok' : fits4 n.path n.a n.b n.c n.pre = ok := hok
  rw [hok'] at q1
  rw [hok] at HD
  obtain ⟨t, ht⟩ : ∃ t, Plain.txt (verText n.a n.b n.c n.pre) = t := ⟨_, rfl⟩
  simp only [ht] at q2
  rw [ht] at HD
  have htz : t.size ≤ 2000000000 := by
    rw [← ht, txt_sizev]
    unfold verText vt
    split
    · have h6 : ∀ m, (digF 6 m).length ≤ 7 := fun m => (digF_len 6 m).2
      have := h6 n.a.toNat
      have := h6 n.b.toNat
      have := h6 n.c.toNat
      split <;> simp [sb_len] <;> omega
    · simp
  clear hok hok' ht
  go_enter Tryz.func45, Tryz.ntmps45
  go_wp2_with fail
  refine q1.mono ?_
  rintro e w1 ⟨rfl, b1⟩
  have hR := Vr.same HR.out b1
  have hB : Below w.heap.size w w1 := HB.out.trans (b1.mono HB.out.size)
  clear q1 HR HB b1
  cases ok
  · have HN : Hid (name5 n = ⟨#[]⟩) := HD.out
    go_wp2
    go_ret
    exact ⟨by rw [HN.out]; rfl, hB⟩
  · have HN : Hid (name5 n = n.path ++ ⟨#[64]⟩ ++ t) := HD.out
    obtain ⟨k0, k1, k2, k3⟩ := Vr.cells hR
    clear hR HD
    go_wp2_with fail
    refine (q2 _).mono ?_
    rintro e w2 ⟨rfl, b2⟩
    have hB2 : Below w.heap.size w w2 := hB.trans (b2.mono hB.size)
    go_wp2
    go_ret
    exact ⟨by rw [HN.out]; rfl, hB2⟩

def nc5 (n : Nd) : Array Value := #[.string n.path, .int .i64 n.a, .int .i64 n.b, .int .i64 n.c, .string n.pre]
theorem sizeN5 (n : Nd) : (Tryz.prog.info? 35).map (·.size) = some (nc5 n).size := by
  show _ = some 5
  kernel_rfl
theorem oneN5 (n : Nd) : (nc5 n).all (·.oneCell') = true := by simp [nc5, Value.oneCell']
theorem rowStay5 {w w' : World} {g : Nat} {o : Obj} (h : w.heap[g]? = some o) (hb : Below w.heap.size w w') : w'.heap[g]? = some o := (hb.block g (Array.getElem?_eq_some_iff.1 h).1).trans h
def nil5 : Nd := ⟨⟨#[]⟩, 0, 0, 0, ⟨#[]⟩⟩
/-- the need whose name a text is -/
def pn (x : ByteArray) (q : (Int × Int × Int × ByteArray) × Bool) : Nd × Bool :=
  if q.2 = true ∧ fits4 x q.1.1 q.1.2.1 q.1.2.2.1 q.1.2.2.2 = true then (⟨x, q.1.1, q.1.2.1, q.1.2.2.1, q.1.2.2.2⟩, true) else (nil5, false)
def pname (s : ByteArray) : Nd × Bool := match splitT 64 s with
  | [x, y] => pn x (parseV y)
  | _ => (nil5, false)
theorem pname_no {s : ByteArray} (h : (splitT 64 s).length ≠ 2) : pname s = (nil5, false) := by
  unfold pname
  match hs : splitT 64 s with
  | [] => rfl
  | [_] => rfl
  | [_, _] => rw [hs] at h; simp at h
  | _ :: _ :: _ :: _ => rfl

theorem cut_size (t : ByteArray) : (cut t).2.size ≤ t.size := by
  unfold cut
  split
  · simp
  · exact Nat.zero_le _
theorem parse3_size (s u pr : ByteArray) : (parse3 s u pr).1.2.2.2.size ≤ pr.size := by
  unfold parse3
  split
  · split
    · exact Nat.le_refl _
    · exact Nat.zero_le _
  · exact Nat.zero_le _
theorem parseV_size (s : ByteArray) : (parseV s).1.2.2.2.size ≤ s.size := by
  unfold parseV
  split
  · refine Nat.le_trans (parse3_size _ _ _) (Nat.le_trans (cut_size _) ?_)
    simp
  · exact Nat.zero_le _
theorem region_tail5 {P : Program} {id : Nat} {Q : Exit → Act → World → Prop} {a : Act} {w : World} {l : List Oper} (n : Nat) (hm : P.follows .mixedOrders = true) (hB : Region.lexTailB .any l.toArray n = true)
    (h : wpStill P l.toArray w.drew (fun a' => wpList P l.toArray Q (l.drop n) a' w.drew) (l.take n) a) : (Code.region id l.toArray true).wp P Q a w := wp_region_still_tail n hm hB h
theorem below_row {B g : Nat} {a w : World} (h : Below B a w) (hg : B ≤ g) (cs : Array Value) : Below B a (w.setRow g cs) := below_setRow h hg cs

set_option maxRecDepth 1000000 in
set_option maxHeartbeats 2000000 in
theorem pname_spec (w : World) (s : ByteArray) (hs : s.size ≤ 1000000000) :
    Calls Tryz.prog 19 #[.string s] w fun e w' => e = .returned (.tuple #[.agg #[.string (pname s).1.path, .int .i64 (pname s).1.a, .int .i64 (pname s).1.b, .int .i64 (pname s).1.c, .string (pname s).1.pre], .bool (pname s).2]) ∧ Below w.heap.size w w' := by
  have HR : Hid (Nr (w.alloc (.cells #[.string ⟨#[]⟩, .int .i64 0, .int .i64 0, .int .i64 0, .string ⟨#[]⟩] 35)) w.heap.size nil5) := heap_alloc_new w _
  have HB : Hid (Below w.heap.size w (w.alloc (.cells #[.string ⟨#[]⟩, .int .i64 0, .int .i64 0, .int .i64 0, .string ⟨#[]⟩] 35))) := (Below.refl _ _).alloc (Nat.le_refl _) _
  have q0 := split_spec (w.alloc (.cells #[.string ⟨#[]⟩, .int .i64 0, .int .i64 0, .int .i64 0, .string ⟨#[]⟩] 35)) s 64 (by omega) (by omega) (by omega)
  have hTs := splitT_size 64 s
  have hTl := splitT_len 64 s
  go_enter Tryz.func19, Tryz.ntmps19
  go_wp2_with fail
  refine q0.mono ?_
  rintro e w1 ⟨v1, rfl, o1, b1⟩
  have r1 : Nr w1 w.heap.size nil5 := rowStay5 HR.out b1
  have hB1 : Below w.heap.size w w1 := HB.out.trans (b1.mono HB.out.size)
  clear q0 HR HB b1
  obtain ⟨ao, cap, rfl⟩ := Own.len o1
  rw [ss_len] at *
  by_cases h2 : (splitT 64 s).length = 2
  · have d2 : (((splitT 64 s).length : Int) != 2) = false := by simp; omega
    obtain ⟨x, y, hxy⟩ : ∃ x y, splitT 64 s = [x, y] := by
      match hT : splitT 64 s, h2 with
      | [x, y], _ => exact ⟨x, y, rfl⟩
    have hxs : x.size ≤ s.size := hTs x (by rw [hxy]; simp)
    have hys : y.size ≤ s.size := hTs y (by rw [hxy]; simp)
    have HP : Hid (pname s = pn x (parseV y)) := by show _ = _; unfold pname; rw [hxy]
    rw [hxy] at o1 ⊢
    clear hTs hTl d2 h2 hxy
    obtain ⟨g, cap', he, hg1, hg2, hcap, hc⟩ := ownForm o1 (by simp [ss])
    simp only [Value.slice.injEq, ss_len, List.length_cons, List.length_nil] at he
    obtain ⟨rfl, _, rfl⟩ := he
    have c0 : w1.cell? ⟨g, 0, none⟩ = some (.string x) := hc 0 (by simp [ss])
    have c1 : w1.cell? ⟨g, 1, none⟩ = some (.string y) := hc 1 (by simp [ss])
    clear hc o1
    have q1 := parse_spec w1 y (by omega)
    have hpz := parseV_size y
    obtain ⟨⟨a, b, c, p⟩, r, hpv⟩ : ∃ q r, parseV y = (q, r) := ⟨_, _, rfl⟩
    rw [hpv] at q1 hpz HP
    unfold verQ Ver.ver at q1
    simp only at q1 hpz
    clear hpv
    go_wp2_with fail
    refine q1.mono ?_
    rintro e w2 ⟨rfl, b2⟩
    have r2 : Nr w2 w.heap.size nil5 := rowStay5 r1 b2
    have hB2 : Below w.heap.size w w2 := hB1.trans (b2.mono hB1.size)
    have e0 := Ver.keepCell c0 b2
    have hgl := World.block_lt_of_cell? w2 _ e0
    have r3 : Nr (w2.alloc (.cells #[.int .i64 a, .int .i64 b, .int .i64 c, .string p] 25)) w.heap.size nil5 := rowStay5 r2 ((Below.refl _ _).alloc (Nat.le_refl _) _)
    have hB3 : Below w.heap.size w (w2.alloc (.cells #[.int .i64 a, .int .i64 b, .int .i64 c, .string p] 25)) := hB2.alloc hB2.size _
    have V3 : Vr (w2.alloc (.cells #[.int .i64 a, .int .i64 b, .int .i64 c, .string p] 25)) w2.heap.size a b c p := heap_alloc_new w2 _
    have f0 := Ver.keepCell e0 ((Below.refl _ _).alloc (Nat.le_refl _) (.cells #[.int .i64 a, .int .i64 b, .int .i64 c, .string p] 25))
    obtain ⟨m0, m1, m2, m3⟩ := Vr.cells V3
    have HR3 : Hid _ := r3
    have HB3 : Hid _ := hB3
    have hlt : w.heap.size < w2.heap.size := (Array.getElem?_eq_some_iff.1 r2).1
    clear c0 c1 q1 r1 r2 hB1 hB2 b2 e0 V3 r3 hB3
    obtain ⟨W3, hW3⟩ : ∃ W3, w2.alloc (.cells #[.int .i64 a, .int .i64 b, .int .i64 c, .string p] 25) = W3 := ⟨_, rfl⟩
    have HW3 : Hid _ := hW3
    rw [hW3] at HR3 HB3 f0 m0 m1 m2 m3
    clear hW3
    cases r
    · have HN : Hid (pname s = (nil5, false)) := by show _ = _; rw [HP.out]; unfold pn; simp
      clear HP
      go_wp2_with fail
      rw [HW3.out]
      refine wp_region_held_drew (S := fun w' => w'.cell? ⟨g, 0, none⟩ = some (.string x) ∧ w'.cell? ⟨w2.heap.size, 0, none⟩ = some (.int .i64 a) ∧ w'.cell? ⟨w2.heap.size, 1, none⟩ = some (.int .i64 b) ∧ w'.cell? ⟨w2.heap.size, 2, none⟩ = some (.int .i64 c) ∧ w'.cell? ⟨w2.heap.size, 3, none⟩ = some (.string p)) (by kernel_rfl) ⟨f0, m0, m1, m2, m3⟩ (fun hHeld => ?_)
      (refine wpAnyH_take (i := 0) (v := ?v0x1) rfl (by kernel_rfl) (by kernel_rfl) (by kernel_rfl) (fun _ _ _ h => h) (Or.inl ⟨by rfl, ?hy0x1⟩) (by assumption) ?rest0x1; case hy0x1 => (intro w hSw; (try dsimp only at hSw); go_split_ands; go_simp; (try with_reducible rfl)))
      try simp only [Act.put, List.setIfInBounds_toArray, List.set_cons_zero, List.set_cons_succ, List.getElem_toArray, List.getElem_cons_zero, List.getElem_cons_succ]
      (refine wpAnyH_take (i := 1) (v := ?v1x2) rfl (by kernel_rfl) (by kernel_rfl) (by kernel_rfl) (fun _ _ _ h => h) (Or.inl ⟨by rfl, ?hy1x2⟩) (by assumption) ?rest1x2; case hy1x2 => (intro w hSw; (try dsimp only at hSw); go_split_ands; go_simp; (try with_reducible rfl)))
      try simp only [Act.put, List.setIfInBounds_toArray, List.set_cons_zero, List.set_cons_succ, List.getElem_toArray, List.getElem_cons_zero, List.getElem_cons_succ]
      (refine wpAnyH_take (i := 2) (v := ?v2x3) rfl (by kernel_rfl) (by kernel_rfl) (by kernel_rfl) (fun _ _ _ h => h) (Or.inl ⟨by rfl, ?hy2x3⟩) (by assumption) ?rest2x3; case hy2x3 => (intro w hSw; (try dsimp only at hSw); go_split_ands; go_simp; (try with_reducible rfl)))
      try simp only [Act.put, List.setIfInBounds_toArray, List.set_cons_zero, List.set_cons_succ, List.getElem_toArray, List.getElem_cons_zero, List.getElem_cons_succ]
      (refine wpAnyH_take (i := 3) (v := undef) rfl (by kernel_rfl) (by kernel_rfl) (by kernel_rfl) (fun _ _ _ h => h) (Or.inr ⟨by rfl, rfl⟩) (by assumption) ?_)
      try simp only [Act.put, List.setIfInBounds_toArray, List.set_cons_zero, List.set_cons_succ, List.getElem_toArray, List.getElem_cons_zero, List.getElem_cons_succ]
      (refine wpAnyH_take (i := 4) (v := undef) rfl (by kernel_rfl) (by kernel_rfl) (by kernel_rfl) (fun _ _ _ h => h) (Or.inr ⟨by rfl, rfl⟩) (by assumption) ?_)
      try simp only [Act.put, List.setIfInBounds_toArray, List.set_cons_zero, List.set_cons_succ, List.getElem_toArray, List.getElem_cons_zero, List.getElem_cons_succ]
      (refine wpAnyH_take (i := 5) (v := undef) rfl (by kernel_rfl) (by kernel_rfl) (by kernel_rfl) (fun _ _ _ h => h) (Or.inr ⟨by rfl, rfl⟩) (by assumption) ?_)
      try simp only [Act.put, List.setIfInBounds_toArray, List.set_cons_zero, List.set_cons_succ, List.getElem_toArray, List.getElem_cons_zero, List.getElem_cons_succ]
      (refine wpAnyH_take (i := 6) (v := undef) rfl (by kernel_rfl) (by kernel_rfl) (by kernel_rfl) (fun _ _ _ h => h) (Or.inr ⟨by rfl, rfl⟩) (by assumption) ?_)
      try simp only [Act.put, List.setIfInBounds_toArray, List.set_cons_zero, List.set_cons_succ, List.getElem_toArray, List.getElem_cons_zero, List.getElem_cons_succ]
      (refine wpAnyH_take (i := 7) (v := undef) rfl (by kernel_rfl) (by kernel_rfl) (by kernel_rfl) (fun _ _ _ h => h) (Or.inr ⟨by rfl, rfl⟩) (by assumption) ?_)
      try simp only [Act.put, List.setIfInBounds_toArray, List.set_cons_zero, List.set_cons_succ, List.getElem_toArray, List.getElem_cons_zero, List.getElem_cons_succ]
      (refine wpAnyH_take (i := 8) (v := undef) rfl (by kernel_rfl) (by kernel_rfl) (by kernel_rfl) (fun _ _ _ h => h) (Or.inr ⟨by rfl, rfl⟩) (by assumption) ?_)
      try simp only [Act.put, List.setIfInBounds_toArray, List.set_cons_zero, List.set_cons_succ, List.getElem_toArray, List.getElem_cons_zero, List.getElem_cons_succ]
      (refine wpAnyH_take (i := 9) (v := ?v9x10) rfl (by kernel_rfl) (by kernel_rfl) (by kernel_rfl) (fun _ _ _ h => h) (Or.inl ⟨by rfl, ?hy9x10⟩) (by assumption) ?rest9x10; case hy9x10 => (intro w hSw; (try dsimp only at hSw); go_split_ands; go_simp; (try with_reducible rfl)))
      try simp only [Act.put, List.setIfInBounds_toArray, List.set_cons_zero, List.set_cons_succ, List.getElem_toArray, List.getElem_cons_zero, List.getElem_cons_succ]
      refine wpAnyH_done (by kernel_rfl) ?_ _
      have HB4 : Hid (Below w.heap.size w W3.drew) := Below.drew HB3.out
      clear hHeld
      go_wp2_with (refine wpList_store_row rfl 35 _ _ rfl w.heap.size (nc5 nil5) rfl rfl 35 _ HR3.out (sizeN5 nil5) rfl (oneN5 nil5) ?_)
      exact bodyPost_ret (results_row_tmp rfl _ _ w.heap.size 35 (nc5 nil5) (0, 0) _ rfl (setRow_heap _ _ _ _ _ (0, 0) HR3.out) Tryz.underlying35 rfl (sizeN5 nil5)) rfl ⟨by rw [HN.out]; rfl, below_setRow HB4.out (Nat.le_refl _) _⟩
    · have q4 : ∀ W, _ := fun W => fits_spec W x a b c p (by omega) (by omega)
      unfold Ver.ver at q4
      obtain ⟨f, hf⟩ : ∃ f, fits4 x a b c p = f := ⟨_, rfl⟩
      simp only [hf] at q4
      have HN : Hid (pname s = if f = true then (⟨x, a, b, c, p⟩, true) else (nil5, false)) := by
        show _ = _
        rw [HP.out]
        unfold pn
        simp only [hf, true_and]
      clear HP hf
      cases f
      · have HF : Hid (pname s = (nil5, false)) := HN.out
        clear HN
        go_wp2_with fail
        rw [HW3.out]
        refine wp_region_held_drew (S := fun w' => w'.cell? ⟨g, 0, none⟩ = some (.string x) ∧ w'.cell? ⟨w2.heap.size, 0, none⟩ = some (.int .i64 a) ∧ w'.cell? ⟨w2.heap.size, 1, none⟩ = some (.int .i64 b) ∧ w'.cell? ⟨w2.heap.size, 2, none⟩ = some (.int .i64 c) ∧ w'.cell? ⟨w2.heap.size, 3, none⟩ = some (.string p)) (by kernel_rfl) ⟨f0, m0, m1, m2, m3⟩ (fun hHeld => ?_)
        (refine wpAnyH_take (i := 0) (v := ?v0x11) rfl (by kernel_rfl) (by kernel_rfl) (by kernel_rfl) (fun _ _ _ h => h) (Or.inl ⟨by rfl, ?hy0x11⟩) (by assumption) ?rest0x11; case hy0x11 => (intro w hSw; (try dsimp only at hSw); go_split_ands; go_simp; (try with_reducible rfl)))
        try simp only [Act.put, List.setIfInBounds_toArray, List.set_cons_zero, List.set_cons_succ, List.getElem_toArray, List.getElem_cons_zero, List.getElem_cons_succ]
        (refine wpAnyH_take (i := 1) (v := ?v1x12) rfl (by kernel_rfl) (by kernel_rfl) (by kernel_rfl) (fun _ _ _ h => h) (Or.inl ⟨by rfl, ?hy1x12⟩) (by assumption) ?rest1x12; case hy1x12 => (intro w hSw; (try dsimp only at hSw); go_split_ands; go_simp; (try with_reducible rfl)))
        try simp only [Act.put, List.setIfInBounds_toArray, List.set_cons_zero, List.set_cons_succ, List.getElem_toArray, List.getElem_cons_zero, List.getElem_cons_succ]
        (refine wpAnyH_take (i := 2) (v := ?v2x13) rfl (by kernel_rfl) (by kernel_rfl) (by kernel_rfl) (fun _ _ _ h => h) (Or.inl ⟨by rfl, ?hy2x13⟩) (by assumption) ?rest2x13; case hy2x13 => (intro w hSw; (try dsimp only at hSw); go_split_ands; go_simp; (try with_reducible rfl)))
        try simp only [Act.put, List.setIfInBounds_toArray, List.set_cons_zero, List.set_cons_succ, List.getElem_toArray, List.getElem_cons_zero, List.getElem_cons_succ]
        (refine wpAnyH_take (i := 3) (v := ?v3x14) rfl (by kernel_rfl) (by kernel_rfl) (by kernel_rfl) (fun _ _ _ h => h) (Or.inl ⟨by rfl, ?hy3x14⟩) (by assumption) ?rest3x14; case hy3x14 => (intro w hSw; (try dsimp only at hSw); go_split_ands; go_simp; (try with_reducible rfl)))
        try simp only [Act.put, List.setIfInBounds_toArray, List.set_cons_zero, List.set_cons_succ, List.getElem_toArray, List.getElem_cons_zero, List.getElem_cons_succ]
        (refine wpAnyH_take (i := 4) (v := ?v4x15) rfl (by kernel_rfl) (by kernel_rfl) (by kernel_rfl) (fun _ _ _ h => h) (Or.inl ⟨by rfl, ?hy4x15⟩) (by assumption) ?rest4x15; case hy4x15 => (intro w hSw; (try dsimp only at hSw); go_split_ands; go_simp; (try with_reducible rfl)))
        try simp only [Act.put, List.setIfInBounds_toArray, List.set_cons_zero, List.set_cons_succ, List.getElem_toArray, List.getElem_cons_zero, List.getElem_cons_succ]
        (refine wpAnyH_take (i := 5) (v := ?v5x16) rfl (by kernel_rfl) (by kernel_rfl) (by kernel_rfl) (fun _ _ _ h => h) (Or.inl ⟨by rfl, ?hy5x16⟩) (by assumption) ?rest5x16; case hy5x16 => (intro w hSw; (try dsimp only at hSw); go_split_ands; go_simp; (try with_reducible rfl)))
        try simp only [Act.put, List.setIfInBounds_toArray, List.set_cons_zero, List.set_cons_succ, List.getElem_toArray, List.getElem_cons_zero, List.getElem_cons_succ]
        (refine wpAnyH_take (i := 6) (v := ?v6x17) rfl (by kernel_rfl) (by kernel_rfl) (by kernel_rfl) (fun _ _ _ h => h) (Or.inl ⟨by rfl, ?hy6x17⟩) (by assumption) ?rest6x17; case hy6x17 => (intro w hSw; (try dsimp only at hSw); go_split_ands; go_simp; (try with_reducible rfl)))
        try simp only [Act.put, List.setIfInBounds_toArray, List.set_cons_zero, List.set_cons_succ, List.getElem_toArray, List.getElem_cons_zero, List.getElem_cons_succ]
        refine wpAnyH_ready (rs := [7]) (by kernel_rfl) (by simp) ?_
        refine AllReadyH.cons rfl (fun K hK => ?_) AllReadyH.nil
        go_simp
        refine (q4 _).mono ?_
        rintro e w4 ⟨rfl, b4⟩
        refine hK.out _ _ ?_ (fun hHeld => ?_)
        · obtain ⟨s0, s1, s2, s3, s4⟩ := hHeld; exact ⟨Ver.keepCell s0 b4, Ver.keepCell s1 b4, Ver.keepCell s2 b4, Ver.keepCell s3 b4, Ver.keepCell s4 b4⟩
        clear hK K
        try simp only [Act.put, List.setIfInBounds_toArray, List.set_cons_zero, List.set_cons_succ, List.getElem_toArray, List.getElem_cons_zero, List.getElem_cons_succ]
        (refine wpAnyH_take (i := 8) (v := ?v8x18) rfl (by kernel_rfl) (by kernel_rfl) (by kernel_rfl) (fun _ _ _ h => h) (Or.inl ⟨by rfl, ?hy8x18⟩) (by assumption) ?rest8x18; case hy8x18 => (intro w hSw; (try dsimp only at hSw); go_split_ands; go_simp; (try with_reducible rfl)))
        try simp only [Act.put, List.setIfInBounds_toArray, List.set_cons_zero, List.set_cons_succ, List.getElem_toArray, List.getElem_cons_zero, List.getElem_cons_succ]
        (refine wpAnyH_take (i := 9) (v := ?v9x19) rfl (by kernel_rfl) (by kernel_rfl) (by kernel_rfl) (fun _ _ _ h => h) (Or.inl ⟨by rfl, ?hy9x19⟩) (by assumption) ?rest9x19; case hy9x19 => (intro w hSw; (try dsimp only at hSw); go_split_ands; go_simp; (try with_reducible rfl)))
        try simp only [Act.put, List.setIfInBounds_toArray, List.set_cons_zero, List.set_cons_succ, List.getElem_toArray, List.getElem_cons_zero, List.getElem_cons_succ]
        refine wpAnyH_done (by kernel_rfl) ?_ _
        have r4 : Nr w4 w.heap.size nil5 := rowStay5 (w := W3.drew) HR3.out b4
        have HB4 : Hid (Below w.heap.size w w4) := (Below.drew HB3.out).trans (b4.mono HB3.out.size)
        clear hHeld
        go_wp2_with (refine wpList_store_row rfl 35 _ _ rfl w.heap.size (nc5 nil5) rfl rfl 35 _ r4 (sizeN5 nil5) rfl (oneN5 nil5) ?_)
        exact bodyPost_ret (results_row_tmp rfl _ _ w.heap.size 35 (nc5 nil5) (0, 0) _ rfl (setRow_heap _ _ _ _ _ (0, 0) r4) Tryz.underlying35 rfl (sizeN5 nil5)) rfl ⟨by rw [HF.out]; rfl, below_setRow HB4.out (Nat.le_refl _) _⟩
      · have HF : Hid (pname s = (⟨x, a, b, c, p⟩, true)) := HN.out
        clear HN
        go_wp2_with fail
        rw [HW3.out]
        refine wp_region_held_drew (S := fun w' => w'.cell? ⟨g, 0, none⟩ = some (.string x) ∧ w'.cell? ⟨w2.heap.size, 0, none⟩ = some (.int .i64 a) ∧ w'.cell? ⟨w2.heap.size, 1, none⟩ = some (.int .i64 b) ∧ w'.cell? ⟨w2.heap.size, 2, none⟩ = some (.int .i64 c) ∧ w'.cell? ⟨w2.heap.size, 3, none⟩ = some (.string p)) (by kernel_rfl) ⟨f0, m0, m1, m2, m3⟩ (fun hHeld => ?_)
        (refine wpAnyH_take (i := 0) (v := ?v0x20) rfl (by kernel_rfl) (by kernel_rfl) (by kernel_rfl) (fun _ _ _ h => h) (Or.inl ⟨by rfl, ?hy0x20⟩) (by assumption) ?rest0x20; case hy0x20 => (intro w hSw; (try dsimp only at hSw); go_split_ands; go_simp; (try with_reducible rfl)))
        try simp only [Act.put, List.setIfInBounds_toArray, List.set_cons_zero, List.set_cons_succ, List.getElem_toArray, List.getElem_cons_zero, List.getElem_cons_succ]
        (refine wpAnyH_take (i := 1) (v := ?v1x21) rfl (by kernel_rfl) (by kernel_rfl) (by kernel_rfl) (fun _ _ _ h => h) (Or.inl ⟨by rfl, ?hy1x21⟩) (by assumption) ?rest1x21; case hy1x21 => (intro w hSw; (try dsimp only at hSw); go_split_ands; go_simp; (try with_reducible rfl)))
        try simp only [Act.put, List.setIfInBounds_toArray, List.set_cons_zero, List.set_cons_succ, List.getElem_toArray, List.getElem_cons_zero, List.getElem_cons_succ]
        (refine wpAnyH_take (i := 2) (v := ?v2x22) rfl (by kernel_rfl) (by kernel_rfl) (by kernel_rfl) (fun _ _ _ h => h) (Or.inl ⟨by rfl, ?hy2x22⟩) (by assumption) ?rest2x22; case hy2x22 => (intro w hSw; (try dsimp only at hSw); go_split_ands; go_simp; (try with_reducible rfl)))
        try simp only [Act.put, List.setIfInBounds_toArray, List.set_cons_zero, List.set_cons_succ, List.getElem_toArray, List.getElem_cons_zero, List.getElem_cons_succ]
        (refine wpAnyH_take (i := 3) (v := ?v3x23) rfl (by kernel_rfl) (by kernel_rfl) (by kernel_rfl) (fun _ _ _ h => h) (Or.inl ⟨by rfl, ?hy3x23⟩) (by assumption) ?rest3x23; case hy3x23 => (intro w hSw; (try dsimp only at hSw); go_split_ands; go_simp; (try with_reducible rfl)))
        try simp only [Act.put, List.setIfInBounds_toArray, List.set_cons_zero, List.set_cons_succ, List.getElem_toArray, List.getElem_cons_zero, List.getElem_cons_succ]
        (refine wpAnyH_take (i := 4) (v := ?v4x24) rfl (by kernel_rfl) (by kernel_rfl) (by kernel_rfl) (fun _ _ _ h => h) (Or.inl ⟨by rfl, ?hy4x24⟩) (by assumption) ?rest4x24; case hy4x24 => (intro w hSw; (try dsimp only at hSw); go_split_ands; go_simp; (try with_reducible rfl)))
        try simp only [Act.put, List.setIfInBounds_toArray, List.set_cons_zero, List.set_cons_succ, List.getElem_toArray, List.getElem_cons_zero, List.getElem_cons_succ]
        (refine wpAnyH_take (i := 5) (v := ?v5x25) rfl (by kernel_rfl) (by kernel_rfl) (by kernel_rfl) (fun _ _ _ h => h) (Or.inl ⟨by rfl, ?hy5x25⟩) (by assumption) ?rest5x25; case hy5x25 => (intro w hSw; (try dsimp only at hSw); go_split_ands; go_simp; (try with_reducible rfl)))
        try simp only [Act.put, List.setIfInBounds_toArray, List.set_cons_zero, List.set_cons_succ, List.getElem_toArray, List.getElem_cons_zero, List.getElem_cons_succ]
        (refine wpAnyH_take (i := 6) (v := ?v6x26) rfl (by kernel_rfl) (by kernel_rfl) (by kernel_rfl) (fun _ _ _ h => h) (Or.inl ⟨by rfl, ?hy6x26⟩) (by assumption) ?rest6x26; case hy6x26 => (intro w hSw; (try dsimp only at hSw); go_split_ands; go_simp; (try with_reducible rfl)))
        try simp only [Act.put, List.setIfInBounds_toArray, List.set_cons_zero, List.set_cons_succ, List.getElem_toArray, List.getElem_cons_zero, List.getElem_cons_succ]
        refine wpAnyH_ready (rs := [7]) (by kernel_rfl) (by simp) ?_
        refine AllReadyH.cons rfl (fun K hK => ?_) AllReadyH.nil
        go_simp
        refine (q4 _).mono ?_
        rintro e w4 ⟨rfl, b4⟩
        refine hK.out _ _ ?_ (fun hHeld => ?_)
        · obtain ⟨s0, s1, s2, s3, s4⟩ := hHeld; exact ⟨Ver.keepCell s0 b4, Ver.keepCell s1 b4, Ver.keepCell s2 b4, Ver.keepCell s3 b4, Ver.keepCell s4 b4⟩
        clear hK K
        try simp only [Act.put, List.setIfInBounds_toArray, List.set_cons_zero, List.set_cons_succ, List.getElem_toArray, List.getElem_cons_zero, List.getElem_cons_succ]
        (refine wpAnyH_take (i := 8) (v := ?v8x27) rfl (by kernel_rfl) (by kernel_rfl) (by kernel_rfl) (fun _ _ _ h => h) (Or.inl ⟨by rfl, ?hy8x27⟩) (by assumption) ?rest8x27; case hy8x27 => (intro w hSw; (try dsimp only at hSw); go_split_ands; go_simp; (try with_reducible rfl)))
        try simp only [Act.put, List.setIfInBounds_toArray, List.set_cons_zero, List.set_cons_succ, List.getElem_toArray, List.getElem_cons_zero, List.getElem_cons_succ]
        (refine wpAnyH_take (i := 9) (v := ?v9x28) rfl (by kernel_rfl) (by kernel_rfl) (by kernel_rfl) (fun _ _ _ h => h) (Or.inl ⟨by rfl, ?hy9x28⟩) (by assumption) ?rest9x28; case hy9x28 => (intro w hSw; (try dsimp only at hSw); go_split_ands; go_simp; (try with_reducible rfl)))
        try simp only [Act.put, List.setIfInBounds_toArray, List.set_cons_zero, List.set_cons_succ, List.getElem_toArray, List.getElem_cons_zero, List.getElem_cons_succ]
        refine wpAnyH_done (by kernel_rfl) ?_ _
        have r4 : Nr w4 w.heap.size nil5 := rowStay5 (w := W3.drew) HR3.out b4
        have HB4 : Hid (Below w.heap.size w w4) := (Below.drew HB3.out).trans (b4.mono HB3.out.size)
        obtain ⟨n0, n1, n2, n3, n4⟩ := hHeld
        go_wp2_with fail
        refine region_tail5 5 (by kernel_rfl) (by kernel_rfl) ?_
        simp only [List.take_succ_cons, List.take_zero, List.drop_succ_cons, List.drop_zero]
        repeat still_step
        refine wpStill_nil ?_
        have r5 : w4.drew.heap[w.heap.size]? = some (.cells (nc5 nil5) 35 (0, 0)) := r4
        have HR5 : Hid _ := r5
        clear r4 r5 hHeld
        go_wp2_with (refine wpList_store_row rfl 35 _ _ rfl w.heap.size (nc5 ⟨x, a, b, c, p⟩) rfl rfl 35 _ HR5.out (sizeN5 ⟨x, a, b, c, p⟩) rfl (oneN5 ⟨x, a, b, c, p⟩) ?_)
        exact bodyPost_ret (results_row_tmp rfl _ _ w.heap.size 35 (nc5 ⟨x, a, b, c, p⟩) (0, 0) _ rfl (setRow_heap _ _ _ _ _ (0, 0) HR5.out) Tryz.underlying35 rfl (sizeN5 ⟨x, a, b, c, p⟩)) rfl ⟨by rw [HF.out]; rfl, below_setRow (Below.drew HB4.out) (Nat.le_refl _) _⟩
  · have d2 : (((splitT 64 s).length : Int) != 2) = true := by simp; omega
    have HN : Hid (pname s = (nil5, false)) := pname_no h2
    clear h2 o1
    go_wp2_with (refine wpList_store_row rfl 35 _ _ rfl w.heap.size (nc5 nil5) rfl rfl 35 _ r1 (sizeN5 nil5) rfl (oneN5 nil5) ?_)
    exact bodyPost_ret (results_row_tmp rfl _ _ w.heap.size 35 (nc5 nil5) (0, 0) _ rfl (setRow_heap _ _ _ _ _ (0, 0) r1) Tryz.underlying35 rfl (sizeN5 nil5)) rfl ⟨by rw [HN.out]; rfl, below_setRow hB1 (Nat.le_refl _) _⟩

end Go.Proofs.YtljlcelbhlkmcabGreatDoor.Ent

/- Contracts of the specification's draws: what is drawn is some number within its bounds, some bytes, some texts of a list; the cursor alone is written. -/
namespace Go.Proofs.YtljlcelbhlkmcabGreatDoor.Draw
open Go.RowKit Go.Proofs.YtljlcelbhlkmcabGreatDoor.Mem Go.Proofs.YtljlcelbhlkmcabGreatDoor.Laws Go.Proofs.YtljlcelbhlkmcabGreatDoor.Bytes
set_option linter.unusedVariables false

/-- A cursor at block g over the bytes that vb reads. -/
def Cur (w : World) (g : Nat) (vb : Value) (n : Nat) : Prop :=
  ∃ (i : Nat) (h : Int), w.heap[g]? = some (.cells #[vb, .int .i64 (i : Int), .int .i64 h] 78 (0, 0)) ∧ i ≤ n

theorem Apart.put {a w : World} {g : Nat} (h : Apart g (g + 1) a w) (j : Nat) (u : Value) : Apart g (g + 1) a (w.setCell ⟨g, j, none⟩ u) :=
  Apart.setCell (p := ⟨g, j, none⟩) h (Nat.le_refl g) (Nat.lt_succ_self g) u

theorem info9 : (Tryz.prog.info? 9).map (fun i => (i.zero, i.size, i.bytes)) = some (some (.string ⟨#[]⟩), 1, 16) := by kernel_rfl

theorem and255 (x : Int) : 0 ≤ bits .and .i64 x 255 ∧ bits .and .i64 x 255 ≤ 255 := by
  have h : ∀ a : BitVec 64, (a &&& (255#64)).toNat ≤ 255 := fun a => by rw [BitVec.toNat_and]; exact Nat.and_le_right
  have e : bits .and .i64 x 255 = IntKind.i64.wrap ((BitVec.ofInt 64 x &&& 255#64).toNat : Int) := rfl
  rw [e]
  have hb := h (BitVec.ofInt 64 x)
  rw [IntKind.wrap_i64]
  omega

set_option maxRecDepth 1000000 in
set_option maxHeartbeats 1000000 in
theorem byte_any (W0 w : World) (g : Nat) (vb : Value) (xs : List Int) (hs : Sl W0 vb (bs xs)) (hby : Byt xs) (hx : xs.length ≤ 140737488355328) (hB : Below W0.heap.size W0 w) (hg : W0.heap.size ≤ g) (hc : Cur w g vb xs.length) :
    Calls Tryz.prog 69 #[.pointer (some ⟨g, 0, none⟩)] w fun e w' => ∃ x : Int, e = .returned (.int .i64 x) ∧ 0 ≤ x ∧ x ≤ 255 ∧ Cur w' g vb xs.length ∧ Apart g (g + 1) w w' := by
  obtain ⟨i, h, hblk, hi⟩ := hc
  have hs' := hs.later hB
  obtain ⟨ao, cap, rfl, hcp, _, hr⟩ := hs'
  have c0 := cell_of_row w g 0 _ _ _ hblk
  have c1 := cell_of_row w g 1 _ _ _ hblk
  have c2 := cell_of_row w g 2 _ _ _ hblk
  have f1 := frozen_of_row w g 1 _ _ hblk
  have f2 := frozen_of_row w g 2 _ _ hblk
  rw [bs_len] at hr hcp c0 hblk
  rw [bs_len]
  simp at c0 c1 c2
  have hset : ∀ (h2 : Int) (k : Nat), (w.setCell ⟨g, 2, none⟩ (.int .i64 h2)).heap[g]? = some (.cells #[.slice ao xs.length cap, .int .i64 (i : Int), .int .i64 h2] 78 (0, 0)) := fun h2 _ => heap_setCell_same w g 2 _ _ _ hblk
  have HS : Hid (∀ (h2 : Int), (w.setCell ⟨g, 2, none⟩ (.int .i64 h2)).heap[g]? = some (.cells #[.slice ao xs.length cap, .int .i64 (i : Int), .int .i64 h2] 78 (0, 0))) := fun h2 => hset h2 0
  clear hset hblk
  by_cases hlt : i < xs.length
  · obtain ⟨b, off, c, rfl, hx0, hcell⟩ := Sl.byteAt hr rfl hlt
    have hcb := hby.at hx0
    have hbl : b < W0.heap.size := by
      obtain ⟨ao', cap', he, _, _, hr'⟩ := hs
      rw [bs_len] at he hr'
      simp only [Value.slice.injEq] at he
      obtain ⟨rfl, _, rfl⟩ := he
      obtain ⟨b', off', c', he', _, hcell'⟩ := Sl.byteAt hr' rfl hlt
      simp only [Option.some.injEq, Addr.mk.injEq, and_true] at he'
      obtain ⟨rfl, rfl⟩ := he'
      exact World.block_lt_of_cell? W0 ⟨b, off + i, none⟩ hcell'
    have hbg : ¬ b = g := by omega
    have hgb : ¬ g = b := by omega
    clear hx0 hr hs hby
    go_enter Tryz.func69, Tryz.ntmps69
    go_wp2
    generalize wrap64 (wrap64 (h * 6364136223846793005) + 1442695040888963407) = h2
    go_quiet (fail)
    go_wp2
    go_quiet (fail)
    go_wp2
    go_quiet (fail)
    go_wp2
    go_ret
    have h2b := HS.out h2
    refine ⟨_, rfl, (and255 _).1, (and255 _).2, ⟨i + 1, h2, heap_setCell_same _ g 1 _ _ _ h2b, by omega⟩, ?_⟩
    repeat (first | exact Apart.refl _ _ _ | refine Apart.quiet ?_ _ | refine Apart.put ?_ _ _)
  · clear hr hs hby
    go_enter Tryz.func69, Tryz.ntmps69
    go_wp2
    generalize wrap64 (wrap64 (h * 6364136223846793005) + 1442695040888963407) = h2
    go_quiet (fail)
    go_wp2
    go_quiet (fail)
    go_wp2
    go_ret
    have h2b := HS.out h2
    refine ⟨_, rfl, (and255 _).1, (and255 _).2, ⟨i, h2, h2b, hi⟩, ?_⟩
    repeat (first | exact Apart.refl _ _ _ | refine Apart.quiet ?_ _ | refine Apart.put ?_ _ _)

/-- What a draw leaves of the world: the cursor alone may have turned. -/
structure Drawn (W0 w : World) (g : Nat) (vb : Value) (xs : List Int) (w' : World) : Prop where
  cur : Cur w' g vb xs.length
  apart : Apart g (g + 1) w w'
  below : Below W0.heap.size W0 w'

theorem Drawn.mk' {W0 w w' : World} {g : Nat} {vb : Value} {xs : List Int} (hB : Below W0.heap.size W0 w) (hg : W0.heap.size ≤ g) (hc : Cur w' g vb xs.length) (ha : Apart g (g + 1) w w') : Drawn W0 w g vb xs w' :=
  ⟨hc, ha, hB.trans (ha.below hg hB.size)⟩

/-- The cursor, where a new block was laid. -/
theorem Cur.alloc {w : World} {g : Nat} {vb : Value} {n : Nat} (h : Cur w g vb n) (o : Obj) : Cur (w.alloc o) g vb n := by
  obtain ⟨i, x, hb, hi⟩ := h
  exact ⟨i, x, by rw [Below.heap_alloc _ _ _ (Array.getElem?_eq_some_iff.1 hb).1]; exact hb, hi⟩
theorem Cur.later {w w' : World} {g B : Nat} {vb : Value} {n : Nat} (h : Cur w g vb n) (hb : Below B w w') (hg : g < B) : Cur w' g vb n := by
  obtain ⟨i, x, hh, hi⟩ := h
  exact ⟨i, x, by rw [hb.block g hg]; exact hh, hi⟩
theorem Cur.lt {w : World} {g : Nat} {vb : Value} {n : Nat} (h : Cur w g vb n) : g < w.heap.size := by
  obtain ⟨i, x, hh, hi⟩ := h
  exact (Array.getElem?_eq_some_iff.1 hh).1

theorem byte_d (W0 w : World) (g : Nat) (vb : Value) (xs : List Int) (hs : Sl W0 vb (bs xs)) (hby : Byt xs) (hx : xs.length ≤ 140737488355328) (hB : Below W0.heap.size W0 w) (hg : W0.heap.size ≤ g) (hc : Cur w g vb xs.length) :
    Calls Tryz.prog 69 #[.pointer (some ⟨g, 0, none⟩)] w fun e w' => ∃ x : Int, e = .returned (.int .i64 x) ∧ 0 ≤ x ∧ x ≤ 255 ∧ Drawn W0 w g vb xs w' := by
  refine (byte_any W0 w g vb xs hs hby hx hB hg hc).mono ?_
  rintro e w' ⟨x, rfl, h0, h1, hcur, hap⟩
  exact ⟨x, rfl, h0, h1, Drawn.mk' hB hg hcur hap⟩

set_option maxRecDepth 1000000 in
set_option maxHeartbeats 1000000 in
theorem below_any (W0 w : World) (g : Nat) (vb : Value) (xs : List Int) (n : Int) (hn1 : 1 ≤ n) (hn2 : n ≤ 9223372036854775807) (hs : Sl W0 vb (bs xs)) (hby : Byt xs) (hx : xs.length ≤ 140737488355328) (hB : Below W0.heap.size W0 w) (hg : W0.heap.size ≤ g) (hc : Cur w g vb xs.length) :
    Calls Tryz.prog 38 #[.pointer (some ⟨g, 0, none⟩), .int .i64 n] w fun e w' => ∃ x : Int, e = .returned (.int .i64 x) ∧ 0 ≤ x ∧ x < n ∧ Drawn W0 w g vb xs w' := by
  by_cases hsm : n ≤ 256
  · go_enter Tryz.func38, Tryz.ntmps38
    go_wp2_with fail
    refine (byte_d W0 w g vb xs hs hby hx hB hg hc).mono ?_
    rintro e w1 ⟨x, rfl, h0, h1, hd⟩
    go_wp2
    go_ret
    exact ⟨_, rfl, Int.emod_nonneg _ (by omega), Int.emod_lt_of_pos _ (by omega), hd⟩
  · go_enter Tryz.func38, Tryz.ntmps38
    go_wp2_with fail
    refine (byte_d W0 w g vb xs hs hby hx hB hg hc).mono ?_
    rintro e w1 ⟨x, rfl, x0, x1, hd1⟩
    go_wp2_with fail
    refine (byte_d W0 w1 g vb xs hs hby hx hd1.below hg hd1.cur).mono ?_
    rintro e w2 ⟨y, rfl, y0, y1, hd2⟩
    go_wp2_with fail
    refine (byte_d W0 w2 g vb xs hs hby hx hd2.below hg hd2.cur).mono ?_
    rintro e w3 ⟨z, rfl, z0, z1, hd3⟩
    go_wp2
    go_ret
    exact ⟨_, rfl, Int.emod_nonneg _ (by omega), Int.emod_lt_of_pos _ (by omega), ⟨hd3.cur, Apart.trans hd1.apart (Apart.trans hd2.apart hd3.apart), hd3.below⟩⟩

/-- ints as cells -/
def is (xs : List Int) : List Value := xs.map (Value.int .i64)
theorem is_len (xs : List Int) : (is xs).length = xs.length := by simp [is]

set_option maxRecDepth 1000000 in
set_option maxHeartbeats 1000000 in
/-- l1Int: one of the list. The list lies apart from the cursor. -/
theorem int_any (W0 w : World) (g : Nat) (vb : Value) (xs : List Int) (gl : Nat) (li : List Int) (hl : w.heap[gl]? = some (.cells (is li).toArray 3 (0, 0))) (hne : gl ≠ g) (hli : 1 ≤ li.length) (hl2 : li.length ≤ 1000) (hs : Sl W0 vb (bs xs)) (hby : Byt xs) (hx : xs.length ≤ 140737488355328) (hB : Below W0.heap.size W0 w) (hg : W0.heap.size ≤ g) (hc : Cur w g vb xs.length) :
    Calls Tryz.prog 39 #[.pointer (some ⟨g, 0, none⟩), .slice (some ⟨gl, 0, none⟩) li.length li.length] w fun e w' => ∃ x : Int, e = .returned (.int .i64 x) ∧ x ∈ li ∧ Drawn W0 w g vb xs w' := by
  go_enter Tryz.func39, Tryz.ntmps39
  go_wp2_with fail
  refine (below_any W0 w g vb xs li.length (by omega) (by omega) hs hby hx hB hg hc).mono ?_
  rintro e w1 ⟨x, rfl, x0, x1, hd⟩
  obtain ⟨k, rfl⟩ := Int.eq_ofNat_of_zero_le x0
  have hk : k < li.length := by omega
  have hgl : gl < w.heap.size := (Array.getElem?_eq_some_iff.1 hl).1
  obtain ⟨y, hy⟩ : ∃ y, li[k]? = some y := ⟨li[k], by simp⟩
  have hcell : w1.cell? ⟨gl, k, none⟩ = some (.int .i64 y) := by
    rw [cell_of_row w1 gl k _ 3 (0, 0) (by rw [hd.apart.block gl hgl (by omega)]; exact hl)]
    simp [is, hy]
  have HY : Hid (li[k]? = some y) := hy
  clear hy hl
  go_wp2
  go_ret
  exact ⟨_, rfl, List.mem_of_getElem? HY.out, hd⟩

set_option maxRecDepth 1000000 in
set_option maxHeartbeats 1000000 in
/-- l1Str: one of the list. The list lies apart from the cursor. -/
theorem str_any (W0 w : World) (g : Nat) (vb : Value) (xs : List Int) (gl : Nat) (li : List ByteArray) (hl : w.heap[gl]? = some (.cells (ss li).toArray 9 (0, 0))) (hne : gl ≠ g) (hli : 1 ≤ li.length) (hl2 : li.length ≤ 1000) (hs : Sl W0 vb (bs xs)) (hby : Byt xs) (hx : xs.length ≤ 140737488355328) (hB : Below W0.heap.size W0 w) (hg : W0.heap.size ≤ g) (hc : Cur w g vb xs.length) :
    Calls Tryz.prog 44 #[.pointer (some ⟨g, 0, none⟩), .slice (some ⟨gl, 0, none⟩) li.length li.length] w fun e w' => ∃ x : ByteArray, e = .returned (.string x) ∧ x ∈ li ∧ Drawn W0 w g vb xs w' := by
  go_enter Tryz.func44, Tryz.ntmps44
  go_wp2_with fail
  refine (below_any W0 w g vb xs li.length (by omega) (by omega) hs hby hx hB hg hc).mono ?_
  rintro e w1 ⟨x, rfl, x0, x1, hd⟩
  obtain ⟨k, rfl⟩ := Int.eq_ofNat_of_zero_le x0
  have hk : k < li.length := by omega
  have hgl : gl < w.heap.size := (Array.getElem?_eq_some_iff.1 hl).1
  obtain ⟨y, hy⟩ : ∃ y, li[k]? = some y := ⟨li[k], by simp⟩
  have hcell : w1.cell? ⟨gl, k, none⟩ = some (.string y) := by
    rw [cell_of_row w1 gl k _ 9 (0, 0) (by rw [hd.apart.block gl hgl (by omega)]; exact hl)]
    simp [ss, hy]
  have HY : Hid (li[k]? = some y) := hy
  clear hy hl
  go_wp2
  go_ret
  exact ⟨_, rfl, List.mem_of_getElem? HY.out, hd⟩

theorem one_byte (x : Int) : ∀ u ∈ [Value.int .u8 x], u.oneCell' = true := by
  intro u hu
  rw [List.mem_singleton] at hu
  rw [hu]
  rfl

theorem one_str (s : ByteArray) : ∀ u ∈ [Value.string s], u.oneCell' = true := by
  intro u hu
  rw [List.mem_singleton] at hu
  rw [hu]
  rfl

theorem Own.emptyB (w : World) (lo : Nat) (h : lo ≤ w.heap.size) : Own (w.alloc (.cells #[] 5)) lo (w.alloc (.cells #[] 5)).heap.size 5 (.slice (some ⟨w.heap.size, 0, none⟩) 0 0) (bs []) :=
  Own.of (World.ownsRow_lit w #[] 0 h (Nat.zero_le _) rfl)

theorem Own.emptyS (w : World) (lo : Nat) (h : lo ≤ w.heap.size) : Own (w.alloc (.cells #[] 9)) lo (w.alloc (.cells #[] 9)).heap.size 9 (.slice (some ⟨w.heap.size, 0, none⟩) 0 0) (ss []) :=
  Own.of (World.ownsRow_lit w #[] 0 h (Nat.zero_le _) rfl)

/-- A draw, and behind it what lies from the start's end on. -/
theorem Drawn.on {W0 w w1 w' : World} {g : Nat} {vb : Value} {xs : List Int} (h : Drawn W0 w g vb xs w1) (hg : W0.heap.size ≤ g) (hgw : g < w.heap.size) (hb : Below w.heap.size w1 w') : Drawn W0 w g vb xs w' :=
  ⟨h.cur.later hb hgw, h.apart.on hb, h.below.trans (hb.mono (by omega))⟩
theorem Drawn.and {W0 w w1 w2 : World} {g : Nat} {vb : Value} {xs : List Int} (h : Drawn W0 w g vb xs w1) (k : Drawn W0 w1 g vb xs w2) : Drawn W0 w g vb xs w2 :=
  ⟨k.cur, h.apart.trans k.apart, k.below⟩
theorem Drawn.refl {W0 w : World} {g : Nat} {vb : Value} {xs : List Int} (hB : Below W0.heap.size W0 w) (hc : Cur w g vb xs.length) : Drawn W0 w g vb xs w :=
  ⟨hc, Apart.refl _ _ _, hB⟩
/-- What the call owns beside the cursor stays. -/
theorem Own.drawn {W0 w w' : World} {g lo hi : Nat} {vb : Value} {xs : List Int} {e : TypeId} {v : Value} {cs : List Value} (h : Own w lo hi e v cs) (hd : Drawn W0 w g vb xs w') (hgl : g < lo ∨ hi ≤ g) (hh : hi ≤ w.heap.size) : Own w' lo hi e v cs :=
  h.apart hd.apart (by omega) hh

theorem lit_block (w : World) (cs : Array Value) (t : TypeId) : (w.alloc (.cells cs t)).heap[w.heap.size]? = some (.cells cs t (0, 0)) := heap_alloc_new w _

theorem mask30 (x : Int) : 0 ≤ bits .and .i64 x 1073741823 ∧ bits .and .i64 x 1073741823 ≤ 1073741823 := by
  have h : ∀ a : BitVec 64, (a &&& (1073741823#64)).toNat ≤ 1073741823 := fun a => by rw [BitVec.toNat_and]; exact Nat.and_le_right
  have e : bits .and .i64 x 1073741823 = IntKind.i64.wrap ((BitVec.ofInt 64 x &&& 1073741823#64).toNat : Int) := rfl
  rw [e]
  have hb := h (BitVec.ofInt 64 x)
  rw [IntKind.wrap_i64]
  omega

set_option maxRecDepth 1000000 in
set_option maxHeartbeats 1000000 in
/-- l1New: a cursor in a new block. -/
theorem new_any (w : World) (vb : Value) (xs : List Int) (hs : Sl w vb (bs xs)) (hby : Byt xs) (hx : xs.length ≤ 140737488355328) :
    Calls Tryz.prog 20 #[vb] w fun e w' => e = .returned (.pointer (some ⟨w.heap.size, 0, none⟩)) ∧ Drawn w w w.heap.size vb xs w' := by
  obtain ⟨ao, cap, rfl, hc1, _, hr1⟩ := hs
  rw [bs_len] at hr1 hc1
  rw [bs_len]
  go_enter Tryz.func20, Tryz.ntmps20
  go_wp2
  go_loop [3, 4] (fun hh i => ∃ (k : Nat) (h : Int), k ≤ xs.length ∧ i = .int .i64 k ∧ hh = .int .i64 h ∧ 0 ≤ h ∧ h ≤ 1000000000000000) (fun _ i => xs.length - (intOf i).toNat)
  case atStart => exact ⟨0, 372372 + (xs.length : Int), Nat.zero_le _, rfl, rfl, by omega, by omega⟩
  case round =>
    obtain ⟨k, h, hk, rfl, rfl, h0, h1⟩ := hrel
    by_cases hlt : k < xs.length
    · have hd1 : decide ((k : Int) < (xs.length : Int)) = true := by simp; omega
      by_cases h4 : (k : Int) < 4000
      · have hd2 : decide ((k : Int) < 4000) = true := by simpa using h4
        obtain ⟨b, off, c, rfl, hx0, hcell⟩ := Sl.byteAt hr1 rfl hlt
        have hcb := hby.at hx0
        clear hx0 hr1 hby
        go_wp2
        go_round
        case rel => exact ⟨k + 1, _, by omega, by go_num, rfl, (mask30 _).1, by have := (mask30 (h * 137 + c + 11)).2; omega⟩
        case measure => simp [intOf]; omega
      · have hd2 : decide ((k : Int) < 4000) = false := by simpa using h4
        clear hr1
        go_wp2
        go_ret
        exact ⟨rfl, ⟨⟨0, h, lit_block _ _ _, Nat.zero_le _⟩, (Apart.refl _ _ _).on ((Below.refl _ _).alloc (Nat.le_refl _) _), (Below.refl _ _).alloc (Nat.le_refl _) _⟩⟩
    · have hd1 : decide ((k : Int) < (xs.length : Int)) = false := by simp; omega
      clear hr1
      go_wp2
      go_ret
      exact ⟨rfl, ⟨⟨0, h, lit_block _ _ _, Nat.zero_le _⟩, (Apart.refl _ _ _).on ((Below.refl _ _).alloc (Nat.le_refl _) _), (Below.refl _ _).alloc (Nat.le_refl _) _⟩⟩

/-- the texts that l1Texts draws of -/
def five : List ByteArray := [⟨#[]⟩, ⟨#[97]⟩, ⟨#[98, 99]⟩, ⟨#[0, 255]⟩, ⟨#[115, 111, 109, 101, 32, 109, 111, 114, 101, 32, 98, 121, 116, 101, 115]⟩]
theorem five_size : ∀ s ∈ five, s.size ≤ 15 := by decide

theorem big_no (w : World) (ao : Option Addr) (n cap : Nat) (h : ¬ 1048576 < n) : Calls Tryz.prog 5 #[.slice ao n cap] w fun e w' => e = .returned (.bool false) ∧ w = w' := by
  have hd : decide ((1048576 : Int) < (n : Int)) = false := by simp; omega
  go_enter Tryz.func5, Tryz.ntmps5
  go_wp2
  go_ret
  exact ⟨rfl, rfl⟩

theorem big_yes (w : World) (ao : Option Addr) (n cap : Nat) (h : 1048576 < n) : Calls Tryz.prog 5 #[.slice ao n cap] w fun e w' => e = .returned (.bool true) ∧ w = w' := by
  have hd : decide ((1048576 : Int) < (n : Int)) = true := by simp; omega
  go_enter Tryz.func5, Tryz.ntmps5
  go_wp2
  go_ret
  exact ⟨rfl, rfl⟩

end Go.Proofs.YtljlcelbhlkmcabGreatDoor.Draw

/- Chapter 3's draws: a right version; three; whatever version. -/
namespace Go.Proofs.YtljlcelbhlkmcabGreatDoor.Ver
open Go.RowKit Go.Proofs.YtljlcelbhlkmcabGreatDoor.Mem Go.Proofs.YtljlcelbhlkmcabGreatDoor.Laws Go.Proofs.YtljlcelbhlkmcabGreatDoor.Bytes Go.Proofs.YtljlcelbhlkmcabGreatDoor.Sha Go.Proofs.YtljlcelbhlkmcabGreatDoor.Draw
set_option linter.unusedVariables false
set_option linter.unusedSimpArgs false

/-- what may stand behind a drawn version -/
def preL : List ByteArray := [⟨#[]⟩, ⟨#[]⟩, ⟨#[]⟩, ⟨#[114, 99, 46, 49]⟩, ⟨#[97, 108, 112, 104, 97]⟩, ⟨#[114, 99, 46, 50]⟩, ⟨#[49]⟩, ⟨#[50, 46, 120]⟩, ⟨#[98, 101, 116, 97, 45, 49]⟩, ⟨#[114, 99]⟩]
theorem preL_size : ∀ s ∈ preL, s.size ≤ 8 := by decide
/-- a drawn version -/
def Dv (a b c : Int) (p : ByteArray) : Prop := (0 ≤ a ∧ a ≤ 2) ∧ (0 ≤ b ∧ b < 4) ∧ (0 ≤ c ∧ c < 3) ∧ p ∈ preL

theorem Vr.apart {w w' : World} {g q : Nat} {a b c : Int} {p : ByteArray} (h : Vr w q a b c p) (ha : Apart g (g + 1) w w') (hne : q ≠ g) : Vr w' q a b c p := (ha.block q h.lt (by omega)).trans h

theorem info3v : (Tryz.prog.info? 3).map (fun i => (i.zero, i.size, i.bytes)) = some (some (.int .i64 0), 1, 8) := by kernel_rfl

set_option maxRecDepth 1000000 in
set_option maxHeartbeats 1000000 in
theorem draw_any (W0 w : World) (g : Nat) (vb : Value) (xs : List Int) (hs : Sl W0 vb (bs xs)) (hby : Byt xs) (hx : xs.length ≤ 140737488355328) (hB : Below W0.heap.size W0 w) (hg : W0.heap.size ≤ g) (hc : Cur w g vb xs.length) :
    Calls Tryz.prog 72 #[.pointer (some ⟨g, 0, none⟩)] w fun e w' => ∃ a b c p, e = .returned (ver a b c p) ∧ Dv a b c p ∧ Drawn W0 w g vb xs w' := by
  have hgw := hc.lt
  have V0 : Vr (w.alloc (.cells (vc 0 0 0 ⟨#[]⟩) 25)) w.heap.size 0 0 0 ⟨#[]⟩ := heap_alloc_new w _
  have hd0 : Drawn W0 w g vb xs (w.alloc (.cells (vc 0 0 0 ⟨#[]⟩) 25)) := (Drawn.refl hB hc).on hg hgw ((Below.refl _ _).alloc (Nat.le_refl _) _)
  have hd1 : ∀ o, Drawn W0 w g vb xs ((w.alloc (.cells (vc 0 0 0 ⟨#[]⟩) 25)).alloc o) := fun o => hd0.on hg hgw ((Below.refl _ _).alloc (by simp) _)
  have V1 : ∀ o, Vr ((w.alloc (.cells (vc 0 0 0 ⟨#[]⟩) 25)).alloc o) w.heap.size 0 0 0 ⟨#[]⟩ := fun o => Vr.same V0 ((Below.refl _ _).alloc (Nat.le_refl _) _)
  have hg2 : w.heap.size + 1 ≠ g := by omega
  clear V0 hd0
  go_enter Tryz.func72, Tryz.ntmps72
  go_wp2_with fail
  refine (int_any W0 _ g vb xs (w.heap.size + 1) [1, 0, 1, 2] (heap_alloc2_new w _ _) hg2 (by decide) (by decide) hs hby hx (hd1 _).below hg (hd1 _).cur).mono ?_
  rintro e w2 ⟨a, rfl, ha, hd2⟩
  have V2 := Vr.apart (V1 _) hd2.apart (by omega)
  have D2 := (hd1 _).and hd2
  clear hd1 V1 hd2
  go_wp2_with fail
  refine (below_any W0 _ g vb xs 4 (by omega) (by omega) hs hby hx D2.below hg D2.cur).mono ?_
  rintro e w3 ⟨b, rfl, b0, b1, hd3⟩
  have V3 := Vr.apart V2 hd3.apart (by omega)
  have D3 := D2.and hd3
  clear V2 hd3 D2
  go_wp2_with fail
  refine (below_any W0 _ g vb xs 3 (by omega) (by omega) hs hby hx D3.below hg D3.cur).mono ?_
  rintro e w4 ⟨c, rfl, c0, c1, hd4⟩
  have V4 := Vr.apart V3 hd4.apart (by omega)
  have D4 := D3.and hd4
  have hgr : g < w4.heap.size := D4.cur.lt
  have D5 : ∀ o, Drawn W0 w g vb xs (w4.alloc o) := fun o => D4.on hg hgw ((Below.refl _ _).alloc D4.apart.size _)
  have V5 : ∀ o, Vr (w4.alloc o) w.heap.size 0 0 0 ⟨#[]⟩ := fun o => Vr.same V4 ((Below.refl _ _).alloc (Nat.le_refl _) _)
  clear V3 hd4 D3 V4 D4
  go_wp2_with fail
  refine (str_any W0 _ g vb xs w4.heap.size preL (lit_block _ _ _) (by omega) (by decide) (by decide) hs hby hx (D5 _).below hg (D5 _).cur).mono ?_
  rintro e w6 ⟨p, rfl, hp, hd6⟩
  have V6 := Vr.apart (V5 _) hd6.apart (by omega)
  have D6 := (D5 _).and hd6
  clear V5 hd6 D5
  go_wp2_with (refine wpList_store_row rfl 25 _ _ rfl w.heap.size (vc a b c p) rfl rfl 25 (vc 0 0 0 ⟨#[]⟩) V6 (sizeV a b c p) rfl (oneV a b c p) ?_)
  refine bodyPost_ret (v := .agg (vc a b c p)) (results_cell_row rfl _ _ w.heap.size 25 _ (0, 0) _ rfl (Vr.row V6 a b c p) Tryz.underlying25 rfl (sizeV a b c p)) rfl ⟨a, b, c, p, rfl, ⟨?_, ⟨b0, b1⟩, ⟨c0, c1⟩, hp⟩, D6.on hg hgw (below_setRow (Below.refl _ _) (Nat.le_refl _) _)⟩
  simp at ha
  omega

set_option maxRecDepth 1000000 in
theorem once_any (W0 w : World) (g : Nat) (vb : Value) (xs : List Int) (n : Int) (hn1 : 1 ≤ n) (hn2 : n ≤ 9223372036854775807) (hs : Sl W0 vb (bs xs)) (hby : Byt xs) (hx : xs.length ≤ 140737488355328) (hB : Below W0.heap.size W0 w) (hg : W0.heap.size ≤ g) (hc : Cur w g vb xs.length) :
    Calls Tryz.prog 43 #[.pointer (some ⟨g, 0, none⟩), .int .i64 n] w fun e w' => ∃ b : Bool, e = .returned (.bool b) ∧ Drawn W0 w g vb xs w' := by
  go_enter Tryz.func43, Tryz.ntmps43
  go_wp2_with fail
  refine (below_any W0 _ g vb xs n hn1 hn2 hs hby hx hB hg hc).mono ?_
  rintro e w2 ⟨a, rfl, a0, a1, hd2⟩
  go_wp2_with fail
  go_ret
  exact ⟨_, rfl, hd2⟩

end Go.Proofs.YtljlcelbhlkmcabGreatDoor.Ver

/- Chapter 3's draws: three right versions. -/
namespace Go.Proofs.YtljlcelbhlkmcabGreatDoor.Ver
open Go.RowKit Go.Proofs.YtljlcelbhlkmcabGreatDoor.Mem Go.Proofs.YtljlcelbhlkmcabGreatDoor.Laws Go.Proofs.YtljlcelbhlkmcabGreatDoor.Bytes Go.Proofs.YtljlcelbhlkmcabGreatDoor.Sha Go.Proofs.YtljlcelbhlkmcabGreatDoor.Draw
set_option linter.unusedVariables false
set_option linter.unusedSimpArgs false

theorem size3 (w : World) (A B C : Obj) : (((w.alloc A).alloc B).alloc C).heap.size = w.heap.size + 1 + 1 + 1 := by
  show (((w.heap.push A).push B).push C).size = _
  simp
theorem below3 (w : World) (A B C : Obj) : Below w.heap.size w (((w.alloc A).alloc B).alloc C) := (((Below.refl _ _).alloc (Nat.le_refl _) _).alloc (by simp) _).alloc (by simp; omega) _
theorem last3 (w : World) (A B C : Obj) : (((w.alloc A).alloc B).alloc C).heap[w.heap.size + 1 + 1]? = some C := by
  have h := heap_alloc_new ((w.alloc A).alloc B) C
  have e : ((w.alloc A).alloc B).heap.size = w.heap.size + 1 + 1 := by
    show ((w.heap.push A).push B).size = _
    simp
  rw [e] at h
  exact h
theorem mid3 (w : World) (A B C : Obj) : (((w.alloc A).alloc B).alloc C).heap[w.heap.size + 1]? = some B := by
  rw [heap_alloc_old ((w.alloc A).alloc B) C (show w.heap.size + 1 < ((w.alloc A).alloc B).heap.size by show _ < ((w.heap.push A).push B).size; simp)]
  exact heap_alloc2_new w A B
theorem first3 (w : World) (A B C : Obj) : (((w.alloc A).alloc B).alloc C).heap[w.heap.size]? = some A := by
  rw [heap_alloc_old ((w.alloc A).alloc B) C (show w.heap.size < ((w.alloc A).alloc B).heap.size by show _ < ((w.heap.push A).push B).size; simp; omega)]
  exact heap_alloc2_old w A B

def put4 (w : World) (g : Nat) (a b c : Int) (p : ByteArray) : World := (put3 w g a b c).setCell ⟨g, 3, none⟩ (.string p)
theorem put4_row {w : World} {g : Nat} {a b c : Int} {p : ByteArray} (h : Vr w g a b c p) (a' b' c' : Int) (p' : ByteArray) : Vr (put4 w g a' b' c' p') g a' b' c' p' := Vr.cellSet (put3_row h a' b' c') 3 _
theorem put4_other {w : World} {g g' : Nat} {a b c : Int} {p : ByteArray} (h : Vr w g a b c p) (hg : g ≠ g') (a' b' c' : Int) (p' : ByteArray) : Vr (put4 w g' a' b' c' p') g a b c p := by
  unfold Vr put4
  rw [Below.heap_setCell _ _ _ _ (by exact hg)]
  exact put3_other h hg a' b' c'
theorem put4_below {B : Nat} {w0 w : World} {g : Nat} (hb : Below B w0 w) (hg : B ≤ g) (a b c : Int) (p : ByteArray) : Below B w0 (put4 w g a b c p) := (put3_below hb hg a b c).setCell (p := ⟨g, 3, none⟩) hg _
theorem results_rows3 {P : Program} {fn : Func} {p q r : Tmp} {ty : TypeId} (h : fn.results = #[.cell p ty, .cell q ty, .cell r ty]) (tmps : Array Value) (w : World) (g1 g2 g3 : Nat) (t : TypeId) (c1 c2 c3 : Array Value) (d : TypeDesc)
    (hp : tmps.getD p undef = .pointer (some ⟨g1, 0, none⟩)) (hq : tmps.getD q undef = .pointer (some ⟨g2, 0, none⟩)) (hr : tmps.getD r undef = .pointer (some ⟨g3, 0, none⟩))
    (h1 : w.heap[g1]? = some (.cells c1 t (0, 0))) (h2 : w.heap[g2]? = some (.cells c2 t (0, 0))) (h3 : w.heap[g3]? = some (.cells c3 t (0, 0)))
    (hu : P.underlying ty = some d) (hd : (match d with | .struct _ | .array _ _ => true | _ => false) = true) (i1 : (P.info? ty).map (·.size) = some c1.size) (i2 : (P.info? ty).map (·.size) = some c2.size) (i3 : (P.info? ty).map (·.size) = some c3.size) :
    (results fn tmps).run P w = .ok (.tuple #[.agg c1, .agg c2, .agg c3]) w := by
  have hp' : tmps[p]?.getD undef = .pointer (some ⟨g1, 0, none⟩) := by simpa using hp
  have hq' : tmps[q]?.getD undef = .pointer (some ⟨g2, 0, none⟩) := by simpa using hq
  have hr' : tmps[r]?.getD undef = .pointer (some ⟨g3, 0, none⟩) := by simpa using hr
  simp [results, h, hp', hq', hr', asAddr, run_loadVar_row w g1 t ty c1 (0, 0) d h1 hu hd i1, run_loadVar_row w g2 t ty c2 (0, 0) d h2 hu hd i2, run_loadVar_row w g3 t ty c3 (0, 0) d h3 hu hd i3]
theorem Vr.drew {w : World} {g : Nat} {a b c : Int} {p : ByteArray} (h : Vr w g a b c p) : Vr w.drew g a b c p := h
theorem Vr.setOther {w : World} {g q : Nat} {a b c : Int} {p : ByteArray} (h : Vr w q a b c p) (hne : q ≠ g) (i : Nat) (v : Value) : Vr (w.setCell ⟨g, i, none⟩ v) q a b c p := by
  unfold Vr
  rw [Below.heap_setCell _ _ _ _ (by exact hne)]
  exact h
theorem Vr.set0 {w : World} {g : Nat} {a b c : Int} {p : ByteArray} (h : Vr w g a b c p) (a' : Int) : Vr (w.setCell ⟨g, 0, none⟩ (.int .i64 a')) g a' b c p := Vr.cellSet h 0 _
theorem Vr.set1 {w : World} {g : Nat} {a b c : Int} {p : ByteArray} (h : Vr w g a b c p) (b' : Int) : Vr (w.setCell ⟨g, 1, none⟩ (.int .i64 b')) g a b' c p := Vr.cellSet h 1 _
theorem Vr.rowOther {w : World} {g q : Nat} {a b c : Int} {p : ByteArray} (h : Vr w q a b c p) (hne : q ≠ g) (cs : Array Value) : Vr (w.setRow g cs) q a b c p := by
  unfold Vr
  rw [setRow_other w g q cs hne]
  exact h
theorem draw_agg (W0 w : World) (g : Nat) (vb : Value) (xs : List Int) (hs : Sl W0 vb (bs xs)) (hby : Byt xs) (hx : xs.length ≤ 140737488355328) (hB : Below W0.heap.size W0 w) (hg : W0.heap.size ≤ g) (hc : Cur w g vb xs.length) :
    Calls Tryz.prog 72 #[.pointer (some ⟨g, 0, none⟩)] w fun e w' => ∃ a b c p, e = .returned (.agg #[.int .i64 a, .int .i64 b, .int .i64 c, .string p]) ∧ Dv a b c p ∧ Drawn W0 w g vb xs w' := draw_any W0 w g vb xs hs hby hx hB hg hc

end Go.Proofs.YtljlcelbhlkmcabGreatDoor.Ver

/- Chapter 3's draws: whatever version. -/
namespace Go.Proofs.YtljlcelbhlkmcabGreatDoor.Ver
open Go.RowKit Go.Proofs.YtljlcelbhlkmcabGreatDoor.Mem Go.Proofs.YtljlcelbhlkmcabGreatDoor.Laws Go.Proofs.YtljlcelbhlkmcabGreatDoor.Bytes Go.Proofs.YtljlcelbhlkmcabGreatDoor.Sha Go.Proofs.YtljlcelbhlkmcabGreatDoor.Draw
set_option linter.unusedVariables false
set_option linter.unusedSimpArgs false

/-- what else may stand behind a drawn version -/
def oddL : List ByteArray := [⟨#[46]⟩, ⟨#[48, 49]⟩, ⟨#[97, 46, 46, 98]⟩, ⟨#[97, 46, 98, 46, 99, 46, 100]⟩, ⟨#[97, 46, 98, 46, 99, 46, 100, 46, 101]⟩, ⟨#[110, 105, 110, 101, 98, 121, 116, 101, 115]⟩, ⟨#[195, 169]⟩, ⟨#[48]⟩, ⟨#[97, 95, 98]⟩]
theorem oddL_size : ∀ s ∈ oddL, s.size ≤ 9 := by decide
/-- a drawn version of any kind -/
def Av (a b c : Int) (p : ByteArray) : Prop := (-1 ≤ a ∧ a ≤ 1000001) ∧ (0 ≤ b ∧ b < 4) ∧ (-1 ≤ c ∧ c ≤ 1000001) ∧ p.size ≤ 9
theorem Dv.any {a b c : Int} {p : ByteArray} (h : Dv a b c p) : Av a b c p := by
  obtain ⟨h1, h2, h3, h4⟩ := h
  have := preL_size p h4
  exact ⟨by omega, h2, by omega, by omega⟩
theorem Vr.set2 {w : World} {g : Nat} {a b c : Int} {p : ByteArray} (h : Vr w g a b c p) (c' : Int) : Vr (w.setCell ⟨g, 2, none⟩ (.int .i64 c')) g a b c' p := Vr.cellSet h 2 _
theorem Vr.set3 {w : World} {g : Nat} {a b c : Int} {p : ByteArray} (h : Vr w g a b c p) (p' : ByteArray) : Vr (w.setCell ⟨g, 3, none⟩ (.string p')) g a b c p' := Vr.cellSet h 3 _

set_option maxRecDepth 1000000 in
set_option maxHeartbeats 2000000 in
theorem any_any (W0 w : World) (g : Nat) (vb : Value) (xs : List Int) (hs : Sl W0 vb (bs xs)) (hby : Byt xs) (hx : xs.length ≤ 140737488355328) (hB : Below W0.heap.size W0 w) (hg : W0.heap.size ≤ g) (hc : Cur w g vb xs.length) :
    Calls Tryz.prog 49 #[.pointer (some ⟨g, 0, none⟩)] w fun e w' => ∃ a b c p, e = .returned (ver a b c p) ∧ Av a b c p ∧ Drawn W0 w g vb xs w' := by
  have hgw := hc.lt
  have V0 : Vr (w.alloc (.cells (vc 0 0 0 ⟨#[]⟩) 25)) w.heap.size 0 0 0 ⟨#[]⟩ := heap_alloc_new w _
  have hd0 : Drawn W0 w g vb xs (w.alloc (.cells (vc 0 0 0 ⟨#[]⟩) 25)) := (Drawn.refl hB hc).on hg hgw ((Below.refl _ _).alloc (Nat.le_refl _) _)
  go_enter Tryz.func49, Tryz.ntmps49
  go_wp2_with fail
  refine (draw_agg W0 _ g vb xs hs hby hx hd0.below hg hd0.cur).mono ?_
  rintro e w2 ⟨a, b, c, p, rfl, D1, d2⟩
  have A1 := D1.any
  have X2 : Vr w2 w.heap.size 0 0 0 ⟨#[]⟩ := Vr.apart V0 d2.apart (by omega)
  have D2 := hd0.and d2
  have s2 := D2.apart.size
  have t2 := X2.lt
  have gl2 := D2.cur.lt
  have D3 : ∀ o, Drawn W0 w g vb xs (w2.alloc o) := fun o => D2.on hg hgw ((Below.refl _ _).alloc s2 _)
  have X3 : ∀ o, Vr (w2.alloc o) w.heap.size 0 0 0 ⟨#[]⟩ := fun o => Vr.same X2 ((Below.refl _ _).alloc (Nat.le_refl _) _)
  clear V0 hd0 d2 X2 D2
  go_wp2_with fail
  refine (below_any W0 _ g vb xs 12 (by omega) (by omega) hs hby hx (D3 _).below hg (D3 _).cur).mono ?_
  rintro e w3 ⟨x, rfl, x0, x1, d3⟩
  have V3 : Vr w3 w2.heap.size a b c p := Vr.apart (w := w2.alloc (.cells (vc a b c p) 25)) (heap_alloc_new w2 _) d3.apart (by omega)
  have X3' : Vr w3 w.heap.size 0 0 0 ⟨#[]⟩ := Vr.apart (X3 _) d3.apart (by omega)
  have D3' := (D3 _).and d3
  have s3 := D3'.apart.size
  have t3 := V3.lt
  have gl3 := D3'.cur.lt
  have D4 : ∀ o, Drawn W0 w g vb xs (w3.alloc o) := fun o => D3'.on hg hgw ((Below.refl _ _).alloc s3 _)
  have X4 : ∀ o, Vr (w3.alloc o) w.heap.size 0 0 0 ⟨#[]⟩ := fun o => Vr.same X3' ((Below.refl _ _).alloc (Nat.le_refl _) _)
  have V4 : ∀ o, Vr (w3.alloc o) w2.heap.size a b c p := fun o => Vr.same V3 ((Below.refl _ _).alloc (Nat.le_refl _) _)
  clear D3 X3 d3
  by_cases h0 : x = 0
  · have e0 : (x == 0) = true := by simpa using h0
    clear h0 V3 X3' D3'
    go_wp2_with fail
    refine (int_any W0 _ g vb xs w3.heap.size [-1, 1000000, 1000001] (lit_block _ _ _) (by omega) (by simp) (by simp) hs hby hx (D4 _).below hg (D4 _).cur).mono ?_
    rintro e w5 ⟨z, rfl, hm, d5⟩
    have hz : -1 ≤ z ∧ z ≤ 1000001 := by simp at hm; omega
    have V5 : Vr w5 w2.heap.size a b c p := Vr.apart (V4 _) d5.apart (by omega)
    have X5 : Vr w5 w.heap.size 0 0 0 ⟨#[]⟩ := Vr.apart (X4 _) d5.apart (by omega)
    have D5 := (D4 _).and d5
    obtain ⟨k0, k1, k2, k3⟩ := Vr.cells V5
    have zf := Vr.frozen V5 0
    have V6 : Vr (w5.setCell ⟨w2.heap.size, 0, none⟩ (.int .i64 z)) w2.heap.size z b c p := Vr.set0 V5 z
    have X6 : Vr (w5.setCell ⟨w2.heap.size, 0, none⟩ (.int .i64 z)) w.heap.size 0 0 0 ⟨#[]⟩ := Vr.setOther X5 (by omega) _ _
    have D6 : Drawn W0 w g vb xs (w5.setCell ⟨w2.heap.size, 0, none⟩ (.int .i64 z)) := D5.on hg hgw ((Below.refl _ _).setCell (p := ⟨w2.heap.size, 0, none⟩) (show w.heap.size ≤ w2.heap.size by omega) _)
    clear V4 X4 D4 V5 X5 d5 D5 hm
    go_wp2_with (first | (refine wpList_load_row rfl 25 _ rfl w2.heap.size rfl 25 (vc z b c p) (0, 0) _ V6 Tryz.underlying25 rfl (sizeV z b c p) ?_) | (refine wpList_store_row rfl 25 _ _ rfl w.heap.size (vc z b c p) rfl rfl 25 (vc 0 0 0 ⟨#[]⟩) X6 (sizeV z b c p) rfl (oneV z b c p) ?_))
    refine bodyPost_ret (v := .agg (vc z b c p)) (results_cell_row rfl _ _ w.heap.size 25 _ (0, 0) _ rfl (Vr.row X6 z b c p) Tryz.underlying25 rfl (sizeV z b c p)) rfl ⟨z, b, c, p, rfl, ⟨hz, A1.2.1, A1.2.2.1, A1.2.2.2⟩, D6.on hg hgw (below_setRow (Below.refl _ _) (Nat.le_refl _) _)⟩
  by_cases h1 : x = 1
  · have e0 : (x == 0) = false := by simpa using h0
    have e1 : (x == 1) = true := by simpa using h1
    clear h0 h1 V3 X3' D3'
    go_wp2_with fail
    refine (str_any W0 _ g vb xs w3.heap.size oddL (lit_block _ _ _) (by omega) (by decide) (by decide) hs hby hx (D4 _).below hg (D4 _).cur).mono ?_
    rintro e w5 ⟨z, rfl, hm, d5⟩
    have hz := oddL_size z hm
    have V5 : Vr w5 w2.heap.size a b c p := Vr.apart (V4 _) d5.apart (by omega)
    have X5 : Vr w5 w.heap.size 0 0 0 ⟨#[]⟩ := Vr.apart (X4 _) d5.apart (by omega)
    have D5 := (D4 _).and d5
    obtain ⟨k0, k1, k2, k3⟩ := Vr.cells V5
    have zf := Vr.frozen V5 3
    have V6 : Vr (w5.setCell ⟨w2.heap.size, 3, none⟩ (.string z)) w2.heap.size a b c z := Vr.set3 V5 z
    have X6 : Vr (w5.setCell ⟨w2.heap.size, 3, none⟩ (.string z)) w.heap.size 0 0 0 ⟨#[]⟩ := Vr.setOther X5 (by omega) _ _
    have D6 : Drawn W0 w g vb xs (w5.setCell ⟨w2.heap.size, 3, none⟩ (.string z)) := D5.on hg hgw ((Below.refl _ _).setCell (p := ⟨w2.heap.size, 3, none⟩) (show w.heap.size ≤ w2.heap.size by omega) _)
    clear V4 X4 D4 V5 X5 d5 D5 hm
    go_wp2_with (first | (refine wpList_load_row rfl 25 _ rfl w2.heap.size rfl 25 (vc a b c z) (0, 0) _ V6 Tryz.underlying25 rfl (sizeV a b c z) ?_) | (refine wpList_store_row rfl 25 _ _ rfl w.heap.size (vc a b c z) rfl rfl 25 (vc 0 0 0 ⟨#[]⟩) X6 (sizeV a b c z) rfl (oneV a b c z) ?_))
    refine bodyPost_ret (v := .agg (vc a b c z)) (results_cell_row rfl _ _ w.heap.size 25 _ (0, 0) _ rfl (Vr.row X6 a b c z) Tryz.underlying25 rfl (sizeV a b c z)) rfl ⟨a, b, c, z, rfl, ⟨A1.1, A1.2.1, A1.2.2.1, hz⟩, D6.on hg hgw (below_setRow (Below.refl _ _) (Nat.le_refl _) _)⟩
  by_cases h2 : x = 2
  · have e0 : (x == 0) = false := by simpa using h0
    have e1 : (x == 1) = false := by simpa using h1
    have e2 : (x == 2) = true := by simpa using h2
    clear h0 h1 h2 V3 X3' D3'
    go_wp2_with fail
    refine (int_any W0 _ g vb xs w3.heap.size [-1, 1000000, 1000001] (lit_block _ _ _) (by omega) (by simp) (by simp) hs hby hx (D4 _).below hg (D4 _).cur).mono ?_
    rintro e w5 ⟨z, rfl, hm, d5⟩
    have hz : -1 ≤ z ∧ z ≤ 1000001 := by simp at hm; omega
    have V5 : Vr w5 w2.heap.size a b c p := Vr.apart (V4 _) d5.apart (by omega)
    have X5 : Vr w5 w.heap.size 0 0 0 ⟨#[]⟩ := Vr.apart (X4 _) d5.apart (by omega)
    have D5 := (D4 _).and d5
    obtain ⟨k0, k1, k2, k3⟩ := Vr.cells V5
    have zf := Vr.frozen V5 2
    have V6 : Vr (w5.setCell ⟨w2.heap.size, 2, none⟩ (.int .i64 z)) w2.heap.size a b z p := Vr.set2 V5 z
    have X6 : Vr (w5.setCell ⟨w2.heap.size, 2, none⟩ (.int .i64 z)) w.heap.size 0 0 0 ⟨#[]⟩ := Vr.setOther X5 (by omega) _ _
    have D6 : Drawn W0 w g vb xs (w5.setCell ⟨w2.heap.size, 2, none⟩ (.int .i64 z)) := D5.on hg hgw ((Below.refl _ _).setCell (p := ⟨w2.heap.size, 2, none⟩) (show w.heap.size ≤ w2.heap.size by omega) _)
    clear V4 X4 D4 V5 X5 d5 D5 hm
    go_wp2_with (first | (refine wpList_load_row rfl 25 _ rfl w2.heap.size rfl 25 (vc a b z p) (0, 0) _ V6 Tryz.underlying25 rfl (sizeV a b z p) ?_) | (refine wpList_store_row rfl 25 _ _ rfl w.heap.size (vc a b z p) rfl rfl 25 (vc 0 0 0 ⟨#[]⟩) X6 (sizeV a b z p) rfl (oneV a b z p) ?_))
    refine bodyPost_ret (v := .agg (vc a b z p)) (results_cell_row rfl _ _ w.heap.size 25 _ (0, 0) _ rfl (Vr.row X6 a b z p) Tryz.underlying25 rfl (sizeV a b z p)) rfl ⟨a, b, z, p, rfl, ⟨A1.1, A1.2.1, hz, A1.2.2.2⟩, D6.on hg hgw (below_setRow (Below.refl _ _) (Nat.le_refl _) _)⟩
  have e0 : (x == 0) = false := by simpa using h0
  have e1 : (x == 1) = false := by simpa using h1
  have e2 : (x == 2) = false := by simpa using h2
  clear h0 h1 h2 V4 X4 D4
  go_wp2_with (first | (refine wpList_load_row rfl 25 _ rfl w2.heap.size rfl 25 (vc a b c p) (0, 0) _ V3 Tryz.underlying25 rfl (sizeV a b c p) ?_) | (refine wpList_store_row rfl 25 _ _ rfl w.heap.size (vc a b c p) rfl rfl 25 (vc 0 0 0 ⟨#[]⟩) X3' (sizeV a b c p) rfl (oneV a b c p) ?_))
  refine bodyPost_ret (v := .agg (vc a b c p)) (results_cell_row rfl _ _ w.heap.size 25 _ (0, 0) _ rfl (Vr.row X3' a b c p) Tryz.underlying25 rfl (sizeV a b c p)) rfl ⟨a, b, c, p, rfl, A1, D3'.on hg hgw (below_setRow (Below.refl _ _) (Nat.le_refl _) _)⟩

theorem any_agg (W0 w : World) (g : Nat) (vb : Value) (xs : List Int) (hs : Sl W0 vb (bs xs)) (hby : Byt xs) (hx : xs.length ≤ 140737488355328) (hB : Below W0.heap.size W0 w) (hg : W0.heap.size ≤ g) (hc : Cur w g vb xs.length) :
    Calls Tryz.prog 49 #[.pointer (some ⟨g, 0, none⟩)] w fun e w' => ∃ a b c p, e = .returned (.agg #[.int .i64 a, .int .i64 b, .int .i64 c, .string p]) ∧ Av a b c p ∧ Drawn W0 w g vb xs w' := any_any W0 w g vb xs hs hby hx hB hg hc

end Go.Proofs.YtljlcelbhlkmcabGreatDoor.Ver

/- Chapter 4's draws: a path; whatever path; a path and a version. -/
namespace Go.Proofs.YtljlcelbhlkmcabGreatDoor.Mod
open Go.RowKit Go.Proofs.YtljlcelbhlkmcabGreatDoor.Mem Go.Proofs.YtljlcelbhlkmcabGreatDoor.Laws Go.Proofs.YtljlcelbhlkmcabGreatDoor.Bytes Go.Proofs.YtljlcelbhlkmcabGreatDoor.Sha Go.Proofs.YtljlcelbhlkmcabGreatDoor.Draw Go.Proofs.YtljlcelbhlkmcabGreatDoor.Ver
set_option linter.unusedVariables false
set_option linter.unusedSimpArgs false

def pathL : List ByteArray := [⟨#[97, 46, 111, 114, 103, 47, 120]⟩, ⟨#[97, 46, 111, 114, 103, 47, 121]⟩, ⟨#[98, 46, 105, 111, 47, 122]⟩, ⟨#[98, 46, 105, 111, 47, 122, 47, 118, 50]⟩, ⟨#[99]⟩, ⟨#[97, 46, 111, 114, 103, 47, 119]⟩]
def oddP : List ByteArray := [⟨#[]⟩, ⟨#[47]⟩, ⟨#[97, 47, 47, 98]⟩, ⟨#[65]⟩, ⟨#[45, 97]⟩, ⟨#[97, 47, 118, 49]⟩, ⟨#[97, 47, 118, 50]⟩, ⟨#[97, 47, 118, 48, 50]⟩, ⟨#[118, 50]⟩, ⟨#[97, 47, 118, 49, 48, 48, 48]⟩, ⟨#[97, 47, 118, 49, 48, 48, 49]⟩, ⟨#[97, 47, 98, 47, 99, 47, 100, 47, 101, 47, 102]⟩, ⟨#[97, 47, 98, 47, 99, 47, 100, 47, 101, 47, 102, 47, 103]⟩, ⟨#[116, 119, 101, 110, 116, 121, 111, 110, 101, 98, 121, 116, 101, 115, 45, 116, 119, 101, 110, 116, 121]⟩, ⟨#[97, 46, 98, 95, 99, 45, 100, 47, 118, 51]⟩, ⟨#[46, 97]⟩]
theorem pathL_size : ∀ s ∈ pathL, s.size ≤ 60 := by decide
theorem oddP_size : ∀ s ∈ oddP, s.size ≤ 60 := by decide

set_option maxRecDepth 1000000 in
set_option maxHeartbeats 1000000 in
theorem path_any (W0 w : World) (g : Nat) (vb : Value) (xs : List Int) (hs : Sl W0 vb (bs xs)) (hby : Byt xs) (hx : xs.length ≤ 140737488355328) (hB : Below W0.heap.size W0 w) (hg : W0.heap.size ≤ g) (hc : Cur w g vb xs.length) :
    Calls Tryz.prog 71 #[.pointer (some ⟨g, 0, none⟩)] w fun e w' => ∃ s, e = .returned (.string s) ∧ s ∈ pathL ∧ Drawn W0 w g vb xs w' := by
  have hgw := hc.lt
  have D1 : ∀ o, Drawn W0 w g vb xs (w.alloc o) := fun o => (Drawn.refl hB hc).on hg hgw ((Below.refl _ _).alloc (Nat.le_refl _) _)
  go_enter Tryz.func71, Tryz.ntmps71
  go_wp2_with fail
  refine (str_any W0 _ g vb xs w.heap.size pathL (lit_block _ _ _) (by omega) (by decide) (by decide) hs hby hx (D1 _).below hg (D1 _).cur).mono ?_
  rintro e w5 ⟨z, rfl, hm, d5⟩
  have D5 := (D1 _).and d5
  clear D1
  go_wp2_with fail
  go_ret
  exact ⟨z, rfl, hm, D5⟩

set_option maxRecDepth 1000000 in
set_option maxHeartbeats 1000000 in
theorem anyP_any (W0 w : World) (g : Nat) (vb : Value) (xs : List Int) (hs : Sl W0 vb (bs xs)) (hby : Byt xs) (hx : xs.length ≤ 140737488355328) (hB : Below W0.heap.size W0 w) (hg : W0.heap.size ≤ g) (hc : Cur w g vb xs.length) :
    Calls Tryz.prog 48 #[.pointer (some ⟨g, 0, none⟩)] w fun e w' => ∃ s, e = .returned (.string s) ∧ s.size ≤ 60 ∧ Drawn W0 w g vb xs w' := by
  have hgw := hc.lt
  go_enter Tryz.func48, Tryz.ntmps48
  go_wp2_with fail
  refine (once_any W0 _ g vb xs 4 (by omega) (by omega) hs hby hx hB hg hc).mono ?_
  rintro e w1 ⟨on, rfl, d1⟩
  have s1 := d1.apart.size
  have gl1 := d1.cur.lt
  have D1 : ∀ o, Drawn W0 w g vb xs (w1.alloc o) := fun o => d1.on hg hgw ((Below.refl _ _).alloc s1 _)
  cases on
  · go_wp2_with fail
    refine (path_any W0 _ g vb xs hs hby hx d1.below hg d1.cur).mono ?_
    rintro e w5 ⟨z, rfl, hm, d5⟩
    have D5 := d1.and d5
    clear D1
    go_wp2_with fail
    go_ret
    exact ⟨z, rfl, pathL_size z hm, D5⟩
  · go_wp2_with fail
    refine (str_any W0 _ g vb xs w1.heap.size oddP (lit_block _ _ _) (by omega) (by decide) (by decide) hs hby hx (D1 _).below hg (D1 _).cur).mono ?_
    rintro e w5 ⟨z, rfl, hm, d5⟩
    have D5 := (D1 _).and d5
    clear D1
    go_wp2_with fail
    go_ret
    exact ⟨z, rfl, oddP_size z hm, D5⟩

end Go.Proofs.YtljlcelbhlkmcabGreatDoor.Mod

/- Chapter 4's draws: a path and a version. -/
namespace Go.Proofs.YtljlcelbhlkmcabGreatDoor.Mod
open Go.RowKit Go.Proofs.YtljlcelbhlkmcabGreatDoor.Mem Go.Proofs.YtljlcelbhlkmcabGreatDoor.Laws Go.Proofs.YtljlcelbhlkmcabGreatDoor.Bytes Go.Proofs.YtljlcelbhlkmcabGreatDoor.Sha Go.Proofs.YtljlcelbhlkmcabGreatDoor.Draw Go.Proofs.YtljlcelbhlkmcabGreatDoor.Ver
set_option linter.unusedVariables false
set_option linter.unusedSimpArgs false

theorem results_tmp_row {P : Program} {fn : Func} {p u : Tmp} {ty : TypeId} (h : fn.results = #[.tmp u, .cell p ty]) (tmps : Array Value) (w : World) (g : Nat) (t : TypeId) (cs : Array Value) (fr : Nat × Nat) (d : TypeDesc)
    (hp : tmps.getD p undef = .pointer (some ⟨g, 0, none⟩)) (hh : w.heap[g]? = some (.cells cs t fr)) (hu : P.underlying ty = some d) (hd : (match d with | .struct _ | .array _ _ => true | _ => false) = true) (hi : (P.info? ty).map (·.size) = some cs.size) :
    (results fn tmps).run P w = .ok (.tuple #[tmps.getD u undef, .agg cs]) w := by
  have hp' : tmps[p]?.getD undef = .pointer (some ⟨g, 0, none⟩) := by simpa using hp
  simp [results, h, hp', asAddr, run_loadVar_row w g t ty cs fr d hh hu hd hi]

end Go.Proofs.YtljlcelbhlkmcabGreatDoor.Mod
