/- Texts in one: HeE, He2, He3, Lk2. -/
import Derived.Test.YtbopliahafkecaaDoorPk19
import Derived.Test.YtbopliahafkecaaDoorPk14
import Derived.Test.YtbopliahafkecaaDoorPk6
import Derived.Test.YtbopliahafkecaaDoorPk13
import Derived.Laws.StructEq
import Derived.BigQuiet
import Derived.Deep.RegionHeld3
/- Two heads held against each other, as the language does it. -/
namespace Go.Proofs.YtbopliahafkecaaDoor.He
open Go.RowKit Go.Proofs.YtbopliahafkecaaDoor.Mem Go.Proofs.YtbopliahafkecaaDoor.Laws Go.Proofs.YtbopliahafkecaaDoor.Bytes Go.Proofs.YtbopliahafkecaaDoor.Sha Go.Proofs.YtbopliahafkecaaDoor.Tr
set_option linter.unusedVariables false
set_option linter.unusedSimpArgs false

theorem fieldsH : Tryd.prog.underlying 28 = some (.struct (Tryd.prog.fieldsOf 28)) := by kernel_rfl

theorem heldH : Tryd.prog.stoodInHeld 28 = false := by kernel_rfl

theorem guardH : Tryd.prog.eqGuardType Tryd.prog.depth 28 = false := by kernel_rfl

theorem eqHrun (w : World) (a b : Hd) :
    (Op.equalIn 10000 28 (.agg #[.int .i64 a.n, .string a.r]) (.agg #[.int .i64 b.n, .string b.r])).run Tryd.prog w = .ok (eqH a b) w := by
  rw [run_equalIn_struct w 9999 _ _ _ fieldsH heldH]
  simp [Program.fieldsOf, Tryd.underlying28, Op.eqFields, go_sem, run_underlying Tryd.underlying3, run_underlying Tryd.underlying9, Tryd.underlying3, Tryd.underlying9, part]
  unfold eqH
  repeat' split
  all_goals simp_all

theorem eqlH (w : World) (a b : Hd) : (binOp .eql 28 (.agg #[.int .i64 a.n, .string a.r]) (.agg #[.int .i64 b.n, .string b.r])).run Tryd.prog w = .ok (.bool (eqH a b)) w := by
  rw [run_eql_struct, eqHrun]
  rfl

theorem neqH (w : World) (a b : Hd) : (binOp .neq 28 (.agg #[.int .i64 a.n, .string a.r]) (.agg #[.int .i64 b.n, .string b.r])).run Tryd.prog w = .ok (.bool (!eqH a b)) w := by
  rw [run_neq_struct, eqHrun]
  rfl

theorem grdH (w : World) (op : BinOp) (x y : Operand) (xs ys : Array Value) : (eqGuard op 28 x y (.agg xs) (.agg ys)).run Tryd.prog w = .ok () w := run_eqGuard_agg w op 28 x y xs ys guardH

theorem eqH_iff (a b : Hd) : eqH a b = true ↔ a = b := by
  unfold eqH
  simp only [Bool.and_eq_true, beq_iff_eq, ByteArray.toList_eq]
  constructor
  · rintro ⟨h1, h2⟩
    exact Hd.ext' h1 (by apply ByteArray.ext; apply Array.ext'; exact h2)
  · rintro rfl
    exact ⟨rfl, rfl⟩

end Go.Proofs.YtbopliahafkecaaDoor.He

/- Chapter 10, the laws' helpers: a head's size, its turning, whether two are the same; lists of heads. -/
namespace Go.Proofs.YtbopliahafkecaaDoor.He
open Go.RowKit Go.Proofs.YtbopliahafkecaaDoor.Mem Go.Proofs.YtbopliahafkecaaDoor.Laws Go.Proofs.YtbopliahafkecaaDoor.Bytes Go.Proofs.YtbopliahafkecaaDoor.Sha Go.Proofs.YtbopliahafkecaaDoor.Tr
set_option linter.unusedVariables false
set_option linter.unusedSimpArgs false

theorem keepH {W W' : World} {p : Addr} {x : Value} (h : W.cell? p = some x) (b : Below W.heap.size W W') : W'.cell? p = some x := by
  rw [b.cell (World.block_lt_of_cell? W p h)]; exact h

set_option maxRecDepth 1000000 in
set_option maxHeartbeats 1000000 in
theorem to_head (w : World) (h : Hd) :
    Calls Tryd.prog 7 #[.agg #[.int .i64 h.n, .string h.r]] w fun e w' => e = .returned (.agg #[.int .i64 h.n, .string h.r]) ∧ Below w.heap.size w w' := by
  have HB : Hid (Below w.heap.size w (((w.alloc (.cells #[.int .i64 h.n, .string h.r] 23)).alloc (.cells #[.int .i64 0, .string ⟨#[]⟩] 28)).alloc (.cells #[.int .i64 h.n, .string h.r] 28))) := (((Below.refl _ _).alloc (Nat.le_refl _) _).alloc (by simp) _).alloc (by simp; omega) _
  have HR1 : Hid ((((w.alloc (.cells #[.int .i64 h.n, .string h.r] 23)).alloc (.cells #[.int .i64 0, .string ⟨#[]⟩] 28)).alloc (.cells #[.int .i64 h.n, .string h.r] 28)).heap[w.heap.size + 1]? = some (.cells #[.int .i64 0, .string ⟨#[]⟩] 28 (0, 0))) := by
    show _ = _
    rw [heap_alloc_old _ _ (by simp)]
    have := heap_alloc_new (w.alloc (.cells #[.int .i64 h.n, .string h.r] 23)) (.cells #[.int .i64 0, .string ⟨#[]⟩] 28)
    simpa using this
  have HR2 : Hid ((((w.alloc (.cells #[.int .i64 h.n, .string h.r] 23)).alloc (.cells #[.int .i64 0, .string ⟨#[]⟩] 28)).alloc (.cells #[.int .i64 h.n, .string h.r] 28)).heap[w.heap.size + 1 + 1]? = some (.cells (hc h) 28 (0, 0))) := by
    show _ = _
    have := heap_alloc_new ((w.alloc (.cells #[.int .i64 h.n, .string h.r] 23)).alloc (.cells #[.int .i64 0, .string ⟨#[]⟩] 28)) (.cells #[.int .i64 h.n, .string h.r] 28)
    simpa [hc] using this
  go_enter Tryd.func7, Tryd.ntmps7
  go_wp2_with (first | (refine wpList_load_row rfl 28 _ rfl (w.heap.size + 1 + 1) rfl 28 (hc h) (0, 0) _ HR2.out Tryd.underlying28 rfl (sizeH h) ?_) | (refine wpList_store_row rfl 28 _ _ rfl (w.heap.size + 1) (hc h) rfl rfl 28 _ HR1.out (sizeH h) rfl (oneH h) ?_))
  exact bodyPost_ret (v := .agg (hc h)) (results_cell_row rfl _ _ (w.heap.size + 1) 28 _ (0, 0) _ rfl (setRow_heap _ _ _ _ _ (0, 0) HR1.out) Tryd.underlying28 rfl (sizeH h)) rfl ⟨rfl, below_setRow HB.out (by omega) _⟩

set_option maxRecDepth 1000000 in
set_option maxHeartbeats 1000000 in
theorem sz_head (w : World) (n : Hd) (left : Int) (hp : n.r.size ≤ 9223372036854775807) (h0 : 0 ≤ left) (h1 : left ≤ 1048576) :
    Calls Tryd.prog 4 #[.agg #[.int .i64 n.n, .string n.r], .int .i64 left] w fun e w' => e = .returned (.int .i64 (if left - n.r.size < 0 then -1 else left - n.r.size)) ∧ Below w.heap.size w w' := by
  have HB : Hid (Below w.heap.size w (w.alloc (.cells #[.int .i64 n.n, .string n.r] 23))) := (Below.refl _ _).alloc (Nat.le_refl _) _
  by_cases hb : left - (n.r.size : Int) < 0
  · have HN : Hid ((if left - n.r.size < 0 then -1 else left - n.r.size) = (-1 : Int)) := by show _ = _; rw [if_pos hb]
    go_enter Tryd.func4, Tryd.ntmps4
    go_wp2
    go_ret
    exact ⟨by first | rfl | (rw [HN.out]; rfl), HB.out⟩
  · have HN : Hid ((if left - n.r.size < 0 then -1 else left - n.r.size) = left - n.r.size) := by show _ = _; rw [if_neg hb]
    go_enter Tryd.func4, Tryd.ntmps4
    go_wp2
    go_ret
    exact ⟨by first | rfl | (rw [HN.out]; rfl), HB.out⟩

theorem infoH : (Tryd.prog.info? 28).map (fun i => (i.zero, i.size, i.bytes)) = some (some (.agg #[.int .i64 0, .string ⟨#[]⟩]), 2, 24) := by kernel_rfl

end Go.Proofs.YtbopliahafkecaaDoor.He

/- Chapter 10, the specification's side: heads that are right, signed, the best. -/
namespace Go.Proofs.YtbopliahafkecaaDoor.He
open Go.RowKit Go.Proofs.YtbopliahafkecaaDoor.Mem Go.Proofs.YtbopliahafkecaaDoor.Laws Go.Proofs.YtbopliahafkecaaDoor.Bytes Go.Proofs.YtbopliahafkecaaDoor.Sha Go.Proofs.YtbopliahafkecaaDoor.Tr
set_option linter.unusedVariables false
set_option linter.unusedSimpArgs false

set_option maxRecDepth 1000000 in
set_option maxHeartbeats 1000000 in
theorem ok_spec (w : World) (h : Hd) : Calls Tryd.prog 12 #[.agg #[.int .i64 h.n, .string h.r]] w fun e w' => e = .returned (.bool (okH h)) ∧ Below w.heap.size w w' := by
  have HB : Hid (Below w.heap.size w (w.alloc (.cells #[.int .i64 h.n, .string h.r] 28))) := (Below.refl _ _).alloc (Nat.le_refl _) _
  by_cases hn : 0 ≤ h.n ∧ h.n ≤ 200
  · have q := in6t (w.alloc (.cells #[.int .i64 h.n, .string h.r] 28)) hn
    obtain ⟨t, ht⟩ : ∃ t, ((h.r.size : Int) == 32) = t := ⟨_, rfl⟩
    have HN : Hid (okH h = t) := by
      show _ = _
      rw [← ht]
      unfold okH
      by_cases h32 : h.r.size = 32
      · rw [decide_eq_true ⟨hn, h32⟩, h32]; rfl
      · rw [decide_eq_false (fun c => h32 c.2)]
        exact (beq_eq_false_iff_ne.2 (by omega)).symm
    clear hn
    go_enter Tryd.func12, Tryd.ntmps12
    go_wp2_with fail
    refine q.mono ?_
    rintro e w1 ⟨rfl, rfl⟩
    go_wp2
    go_ret
    exact ⟨by rw [HN.out]; rfl, HB.out⟩
  · have q := in6f (w.alloc (.cells #[.int .i64 h.n, .string h.r] 28)) hn
    have HN : Hid (okH h = false) := by show _ = _; unfold okH; rw [decide_eq_false (fun c => hn c.1)]
    clear hn
    go_enter Tryd.func12, Tryd.ntmps12
    go_wp2_with fail
    refine q.mono ?_
    rintro e w1 ⟨rfl, rfl⟩
    go_wp2
    go_ret
    exact ⟨by rw [HN.out]; rfl, HB.out⟩

theorem signed_snoc {t : List Hd} {k : Nat} {x : Hd} (hx : t[k]? = some x) (h : Hd) : signed (t.take (k + 1)) h = (signed (t.take k) h || eqH x h) := by
  unfold signed
  rw [List.take_add_one, hx]
  simp

theorem signed_yes {t : List Hd} {k : Nat} {x h : Hd} (hx : t[k]? = some x) (he : eqH x h = true) : signed t h = true := by
  unfold signed
  rw [List.any_eq_true]
  exact ⟨x, List.mem_of_getElem? hx, he⟩

theorem bestF_snoc (b : Hd) (r : List Hd) (x : Hd) : bestF b (r ++ [x]) = if (bestF b r).n < x.n then x else bestF b r := by
  induction r generalizing b with
  | nil => rfl
  | cons y r ih =>
    simp only [List.cons_append, bestF]
    split
    · exact ih y
    · exact ih b

end Go.Proofs.YtbopliahafkecaaDoor.He

/- Chapter 17, the specification's side: a lock's text. -/
namespace Go.Proofs.YtbopliahafkecaaDoor.Lk
open Go.RowKit Go.Proofs.YtbopliahafkecaaDoor.Mem Go.Proofs.YtbopliahafkecaaDoor.Laws Go.Proofs.YtbopliahafkecaaDoor.Bytes Go.Proofs.YtbopliahafkecaaDoor.Sha Go.Proofs.YtbopliahafkecaaDoor.Ver Go.Proofs.YtbopliahafkecaaDoor.Mod Go.Proofs.YtbopliahafkecaaDoor.Ent Go.Proofs.YtbopliahafkecaaDoor.He
set_option linter.unusedVariables false
set_option linter.unusedSimpArgs false

theorem rest_app : ∀ l m : List Nd, rest (l ++ m) = rest l ++ rest m := by
  intro l m
  induction l with
  | nil => rfl
  | cons n r ih => simp [rest, ih]

theorem rest_size (l : List Nd) (h : ∀ x ∈ l, x.path.size ≤ 1000000000 ∧ x.pre.size ≤ 1000000000) : (rest l).length ≤ l.length * 2100000000 := by
  induction l with
  | nil => simp [rest]
  | cons x r ih =>
    have h1 := h x (by simp)
    have h2 := name5_size (n := x)
    have h3 := ih (fun y hy => h y (by simp [hy]))
    simp only [rest, List.length_append, sb_len, List.length_cons, List.length_nil]
    omega

theorem lock_no {h : Hd} {l : List Nd} (hk : lockOk h l = false) : lock h l = ⟨#[]⟩ := by unfold lock; rw [if_neg (by rw [hk]; decide)]

set_option maxRecDepth 1000000 in
set_option maxHeartbeats 4000000 in
theorem lock_spec (w : World) (h : Hd) (v : Value) (l : List Nd) (hs : Sd w v l) (hl : l.length ≤ 1000000000) (hr : h.r.size ≤ 1000000000) (hz : ∀ x ∈ l, x.path.size ≤ 1000000000 ∧ x.pre.size ≤ 1000000000) :
    Calls Tryd.prog 6 #[.agg #[.int .i64 h.n, .string h.r], v] w fun e w' => e = .returned (.string (lock h l)) ∧ Below w.heap.size w w' := by
  have HS : Hid (Sd w v l) := hs
  have HZ : Hid (∀ x ∈ l, x.path.size ≤ 1000000000 ∧ x.pre.size ≤ 1000000000) := hz
  obtain ⟨_, ao, cap, rfl, hcap, _, _⟩ := hs
  obtain ⟨hn, hb⟩ := h
  simp only at hr
  have HK : Hid (lockOk ⟨hn, hb⟩ l = (okH ⟨hn, hb⟩ && decide (l.length ≤ 60) && rise l)) := rfl
  have q0 : ∀ W, _ := fun W => ok_spec W ⟨hn, hb⟩
  simp only at q0
  obtain ⟨K0, hK0⟩ : ∃ K, okH ⟨hn, hb⟩ = K := ⟨_, rfl⟩
  simp only [hK0] at q0
  have HK0 : Hid (okH ⟨hn, hb⟩ = K0) := hK0
  clear hK0 hz
  have B0 : Hid (Below w.heap.size w w) := Below.refl _ _
  obtain ⟨W1, HW1, b1, y1, hS1, r_h1⟩ := Ke.l1 w #[.int .i64 hn, .string hb] 28
  have z1 := b1.size
  have B1 := Ke.b B0 b1
  have c_h1 := Ke.c r_h1
  go_enter Tryd.func6, Tryd.ntmps6
  go_wp2_with fail
  rw [HW1.out]
  refine (q0 W1).mono ?_
  rintro e W2 ⟨rfl, b2⟩
  have z2 := b2.size
  have B2 := Ke.b B1 b2
  have r_h2 := Ke.r r_h1 b2
  have c_h2 := Ke.c r_h2
  clear r_h1 c_h1
  clear q0
  cases K0
  · have HN : Hid (lockOk ⟨hn, hb⟩ l = false) := by show _ = _; rw [HK.out, HK0.out]; rfl
    go_wp2
    go_ret
    exact ⟨by rw [lock_no HN.out]; rfl, B2.out⟩
  · obtain ⟨⟨hn0, hn1⟩, hb32⟩ := of_decide_eq_true HK0.out
    simp only at hn0 hn1 hb32
    obtain ⟨m, rfl⟩ : ∃ m : Nat, hn = (m : Int) := ⟨hn.toNat, by omega⟩
    by_cases h60 : l.length ≤ 60
    · have h61 : ¬ (60 : Int) < (l.length : Int) := by omega
      have q1 := rising_spec W2 (.slice ao l.length cap) l (HS.out.later B2.out) (by omega) (fun x hx => by have := HZ.out x hx; omega)
      obtain ⟨R0, hR0⟩ : ∃ K, rise l = K := ⟨_, rfl⟩
      rw [hR0] at q1
      have HR0 : Hid (rise l = R0) := hR0
      clear hR0
      go_wp2_with fail
      refine (q1).mono ?_
      rintro e W3 ⟨rfl, b3⟩
      have z3 := b3.size
      have B3 := Ke.b B2 b3
      have r_h3 := Ke.r r_h2 b3
      have c_h3 := Ke.c r_h3
      clear r_h2 c_h2
      clear q1
      cases R0
      · have HN : Hid (lockOk ⟨(m : Int), hb⟩ l = false) := by show _ = _; rw [HK.out, HK0.out, HR0.out, decide_eq_true h60]; rfl
        go_wp2
        go_ret
        exact ⟨by rw [lock_no HN.out]; rfl, B3.out⟩
      · have HN : Hid (lockOk ⟨(m : Int), hb⟩ l = true) := by show _ = _; rw [HK.out, HK0.out, HR0.out, decide_eq_true h60]; rfl
        have q2 : ∀ W, _ := fun W => text_spec 6 W m (by omega) (by omega)
        have q3 : ∀ W, _ := fun W => hex_spec W hb (by omega)
        obtain ⟨tA, hA⟩ : ∃ t, Plain.txt (digF 6 m) = t := ⟨_, rfl⟩
        obtain ⟨tB, hB⟩ : ∃ t, Plain.txt (hexs (sb hb)) = t := ⟨_, rfl⟩
        have sA : tA.size ≤ 7 := by rw [← hA, txt_sizev]; exact (digF_len 6 m).2
        have sB : tB.size ≤ 100 := by rw [← hB, txt_sizev, hexs_len, sb_len]; omega
        simp only [hA] at q2
        simp only [hB] at q3
        have HAB : Hid (Plain.txt (digF 6 m) = tA ∧ Plain.txt (hexs (sb hb)) = tB) := ⟨hA, hB⟩
        clear hA hB
        obtain ⟨x1, hx1⟩ : ∃ x, (⟨#[105, 110, 100, 101, 120, 32]⟩ : ByteArray) ++ tA = x := ⟨_, rfl⟩
        obtain ⟨x2, hx2⟩ : ∃ x, x1 ++ (⟨#[32]⟩ : ByteArray) = x := ⟨_, rfl⟩
        obtain ⟨x3, hx3⟩ : ∃ x, x2 ++ tB = x := ⟨_, rfl⟩
        obtain ⟨x4, hx4⟩ : ∃ x, x3 ++ (⟨#[10]⟩ : ByteArray) = x := ⟨_, rfl⟩
        have n1 : x1.size ≤ 13 := by rw [← hx1, ByteArray.size_append]; show 6 + tA.size ≤ 13; omega
        have n2 : x2.size ≤ 14 := by rw [← hx2, ByteArray.size_append]; show x1.size + 1 ≤ 14; omega
        have n3 : x3.size ≤ 114 := by rw [← hx3, ByteArray.size_append]; omega
        have n4 : x4.size ≤ 115 := by rw [← hx4, ByteArray.size_append]; show x3.size + 1 ≤ 115; omega
        have HX : Hid (x4 = Plain.txt (line0 ⟨(m : Int), hb⟩ ++ [10])) := by
          show _ = _
          rw [← hx4, ← hx3, ← hx2, ← hx1, ← HAB.out.1, ← HAB.out.2]
          unfold line0 word0
          simp only [txt_app, Int.toNat_natCast, ByteArray.append_assoc]
          rfl
        have r1 : ¬ 9223372036854775807 < 6 + tA.size := by omega
        have r2 : ¬ 9223372036854775807 < x1.size + 1 := by omega
        have r3 : ¬ 9223372036854775807 < x2.size + tB.size := by omega
        have r4 : ¬ 9223372036854775807 < x3.size + 1 := by omega
        have r5 : ¬ 9223372036854775806 < x1.size := by omega
        have r6 : ¬ 9223372036854775806 < x3.size := by omega
        go_wp2_with fail
        refine wp_region_held_drew (S := fun w' => w'.cell? ⟨w.heap.size, 0, none⟩ = some (.int .i64 (m : Int)) ∧ w'.cell? ⟨w.heap.size, 1, none⟩ = some (.string hb)) (by kernel_rfl) ⟨(c_h3 0), (c_h3 1)⟩ (fun hHeld => ?_)
        obtain ⟨W4, HW4, b4⟩ : ∃ X, Hid (W3.drew = X) ∧ Below W3.heap.size W3 X := ⟨_, rfl, Below.drew (Below.refl _ _)⟩
        have HHW4 := HW4.out
        rw [HHW4] at hHeld ⊢
        clear HHW4
        have z4 := b4.size
        have B4 := Ke.b B3 b4
        have r_h4 := Ke.r r_h3 b4
        have c_h4 := Ke.c r_h4
        clear r_h3 c_h3
        refine Ke.y 0 rfl (fun _ _ _ h => h) ?_
        try simp only [Act.put, pu1, pu2, pu3, pu4, pu5, pu6]
        refine Ke.y 1 rfl (fun _ _ _ h => h) ?_
        try simp only [Act.put, pu1, pu2, pu3, pu4, pu5, pu6]
        refine Ke.y 5 rfl (fun _ _ _ h => h) ?_
        try simp only [Act.put, pu1, pu2, pu3, pu4, pu5, pu6]
        refine Ke.y 6 rfl (fun _ _ _ h => h) ?_
        try simp only [Act.put, pu1, pu2, pu3, pu4, pu5, pu6]
        refine Ke.z 2 rfl (fun K hK => ?_)
        go_simp
        refine (q2 W4).mono ?_
        rintro e W5 ⟨rfl, b5⟩
        refine hK.out _ _ ⟨(keepR (W := W4) hHeld.1 b5), (keepR (W := W4) hHeld.2 b5)⟩ (fun hHeld => ?_)
        clear hK K
        try simp only [Act.put, pu1, pu2, pu3, pu4, pu5, pu6]
        have z5 := b5.size
        have B5 := Ke.b B4 b5
        have r_h5 := Ke.r r_h4 b5
        have c_h5 := Ke.c r_h5
        clear r_h4 c_h4
        refine Ke.y 3 rfl (fun _ _ _ h => h) ?_
        try simp only [Act.put, pu1, pu2, pu3, pu4, pu5, pu6]
        refine Ke.y 4 rfl (fun _ _ _ h => h) ?_
        try simp only [Act.put, pu1, pu2, pu3, pu4, pu5, pu6]
        refine Ke.z 7 rfl (fun K hK => ?_)
        go_simp
        refine (q3 W5).mono ?_
        rintro e W6 ⟨rfl, b6⟩
        refine hK.out _ _ ⟨(keepR (W := W5) hHeld.1 b6), (keepR (W := W5) hHeld.2 b6)⟩ (fun hHeld => ?_)
        clear hK K
        try simp only [Act.put, pu1, pu2, pu3, pu4, pu5, pu6]
        have z6 := b6.size
        have B6 := Ke.b B5 b6
        have r_h6 := Ke.r r_h5 b6
        have c_h6 := Ke.c r_h6
        clear r_h5 c_h5
        refine Ke.y 8 rfl (fun _ _ _ h => h) ?_
        try simp only [Act.put, pu1, pu2, pu3, pu4, pu5, pu6]
        refine Ke.y 9 rfl (fun _ _ _ h => h) ?_
        try simp only [Act.put, pu1, pu2, pu3, pu4, pu5, pu6]
        refine Ke.y 10 rfl (fun _ _ _ h => h) ?_
        try simp only [Act.put, pu1, pu2, pu3, pu4, pu5, pu6]
        refine wpAnyH_done (by kernel_rfl) ?_ _
        clear hHeld
        clear q2 q3 r1 r2 r3 r4 r5 r6 hx1 hx2 hx3 hx4 n1 n2 n3
        go_wp2_with fail
        go_loopw [5, 6] (fun sv iv wr => ∃ (k : Nat) (S : ByteArray), sv = .string S ∧ iv = .int .i64 (k : Int) ∧ k ≤ l.length ∧ Hid (S = x4 ++ Plain.txt (rest (l.take k))) ∧ Hid (Below w.heap.size w wr)) (fun _ iv _ => l.length - (intOf iv).toNat)
        case atStart => exact ⟨0, x4, rfl, rfl, Nat.zero_le _, (by show x4 = x4 ++ (⟨#[]⟩ : ByteArray); apply ByteArray.ext; simp), B6⟩
        case round =>
          obtain ⟨k, S, rfl, rfl, hk, HSS, B7⟩ := hrel
          obtain ⟨W7, hW7⟩ : ∃ X, X = wr := ⟨_, rfl⟩
          subst hW7
          clear r_h6 c_h6 B6
          have hSz : S.size ≤ 115 + 60 * 2100000000 := by
            have h1 := congrArg ByteArray.size HSS.out
            rw [ByteArray.size_append, txt_sizev] at h1
            have h2 := rest_size (l.take k) (fun x hx => HZ.out x (List.mem_of_mem_take hx))
            have h3 : (l.take k).length ≤ 60 := by rw [List.length_take]; omega
            have h4 := Nat.mul_le_mul_right 2100000000 h3
            omega
          by_cases hlt : k < l.length
          · have hlt2 : (k : Int) < (l.length : Int) := by omega
            obtain ⟨x, hx⟩ : ∃ x, l[k]? = some x := ⟨l[k], by simp [hlt]⟩
            obtain ⟨b, off, cap9, he, _, m0, m1, m2, m3, m4⟩ := Sd.at (HS.out.later B7.out) hx
            simp only [Value.slice.injEq] at he
            obtain ⟨rfl, _, rfl⟩ := he
            have HTk : Hid (l.take (k + 1) = l.take k ++ [x]) := by show _ = _; rw [List.take_add_one, hx]; rfl
            have hxp := HZ.out x (List.mem_of_getElem? hx)
            clear hx
            have q1 : ∀ W, _ := fun W => name_spec W x hxp.1 hxp.2
            obtain ⟨N, hN⟩ : ∃ N, name5 x = N := ⟨_, rfl⟩
            have hNz : N.size ≤ 2000000100 := by rw [← hN]; have := name5_size (n := x); omega
            simp only [hN] at q1
            have HNN : Hid (name5 x = N) := hN
            clear hN
            obtain ⟨y1, hy1⟩ : ∃ y, S ++ N = y := ⟨_, rfl⟩
            obtain ⟨y2, hy2⟩ : ∃ y, y1 ++ (⟨#[10]⟩ : ByteArray) = y := ⟨_, rfl⟩
            have n1 : y1.size ≤ 200000000000 := by rw [← hy1, ByteArray.size_append]; omega
            have HY : Hid (y2 = x4 ++ Plain.txt (rest (l.take (k + 1)))) := by
              show _ = _
              rw [HTk.out, rest_app, txt_app, ← ByteArray.append_assoc, ← HSS.out, ← hy2, ← hy1, ← HNN.out]
              show _ = S ++ Plain.txt (sb (name5 x) ++ [10] ++ [])
              rw [List.append_nil, txt_app, txt_sbv, ← ByteArray.append_assoc]
              rfl
            have r1 : ¬ 9223372036854775807 < S.size + N.size := by omega
            have r2 : ¬ 9223372036854775807 < y1.size + 1 := by omega
            have r3 : ¬ 9223372036854775806 < y1.size := by omega
            go_wp2_with fail
            refine wp_region_held_drew (S := fun w' => w'.cell? ⟨b, off + k * 5, none⟩ = some (.string x.path) ∧ w'.cell? ⟨b, off + k * 5 + 1, none⟩ = some (.int .i64 x.a) ∧ w'.cell? ⟨b, off + k * 5 + 2, none⟩ = some (.int .i64 x.b) ∧ w'.cell? ⟨b, off + k * 5 + 3, none⟩ = some (.int .i64 x.c) ∧ w'.cell? ⟨b, off + k * 5 + 4, none⟩ = some (.string x.pre)) (by kernel_rfl) ⟨m0, m1, m2, m3, m4⟩ (fun hHeld => ?_)
            obtain ⟨W8, HW8, b8⟩ : ∃ X, Hid (W7.drew = X) ∧ Below W7.heap.size W7 X := ⟨_, rfl, Below.drew (Below.refl _ _)⟩
            have HHW8 := HW8.out
            rw [HHW8] at hHeld ⊢
            clear HHW8
            have z8 := b8.size
            have B8 := Ke.b B7 b8
            refine Ke.y 0 rfl (fun _ _ _ h => h) ?_
            try simp only [Act.put, pu1, pu2, pu3, pu4, pu5, pu6]
            refine Ke.y 1 rfl (fun _ _ _ h => h) ?_
            try simp only [Act.put, pu1, pu2, pu3, pu4, pu5, pu6]
            refine Ke.y 2 rfl (fun _ _ _ h => h) ?_
            try simp only [Act.put, pu1, pu2, pu3, pu4, pu5, pu6]
            refine Ke.y 3 rfl (fun _ _ _ h => h) ?_
            try simp only [Act.put, pu1, pu2, pu3, pu4, pu5, pu6]
            refine Ke.y 4 rfl (fun _ _ _ h => h) ?_
            try simp only [Act.put, pu1, pu2, pu3, pu4, pu5, pu6]
            refine Ke.y 5 rfl (fun _ _ _ h => h) ?_
            try simp only [Act.put, pu1, pu2, pu3, pu4, pu5, pu6]
            refine Ke.y 6 rfl (fun _ _ _ h => h) ?_
            try simp only [Act.put, pu1, pu2, pu3, pu4, pu5, pu6]
            refine Ke.y 7 rfl (fun _ _ _ h => h) ?_
            try simp only [Act.put, pu1, pu2, pu3, pu4, pu5, pu6]
            refine Ke.y 8 rfl (fun _ _ _ h => h) ?_
            try simp only [Act.put, pu1, pu2, pu3, pu4, pu5, pu6]
            refine Ke.y 9 rfl (fun _ _ _ h => h) ?_
            try simp only [Act.put, pu1, pu2, pu3, pu4, pu5, pu6]
            refine Ke.y 10 rfl (fun _ _ _ h => h) ?_
            try simp only [Act.put, pu1, pu2, pu3, pu4, pu5, pu6]
            refine Ke.z 11 rfl (fun K hK => ?_)
            go_simp
            refine (q1 W8).mono ?_
            rintro e W9 ⟨rfl, b9⟩
            refine hK.out _ _ ⟨(keepR (W := W8) hHeld.1 b9), (keepR (W := W8) hHeld.2.1 b9), (keepR (W := W8) hHeld.2.2.1 b9), (keepR (W := W8) hHeld.2.2.2.1 b9), (keepR (W := W8) hHeld.2.2.2.2 b9)⟩ (fun hHeld => ?_)
            clear hK K
            try simp only [Act.put, pu1, pu2, pu3, pu4, pu5, pu6]
            have z9 := b9.size
            have B9 := Ke.b B8 b9
            refine Ke.y 12 rfl (fun _ _ _ h => h) ?_
            try simp only [Act.put, pu1, pu2, pu3, pu4, pu5, pu6]
            refine Ke.y 13 rfl (fun _ _ _ h => h) ?_
            try simp only [Act.put, pu1, pu2, pu3, pu4, pu5, pu6]
            refine Ke.y 14 rfl (fun _ _ _ h => h) ?_
            try simp only [Act.put, pu1, pu2, pu3, pu4, pu5, pu6]
            refine wpAnyH_done (by kernel_rfl) ?_ _
            clear hHeld
            clear q1 r1 r2 r3 hy1 hy2 n1 m0 m1 m2 m3 m4
            go_wp2
            go_roundw
            case rel => exact ⟨k + 1, y2, rfl, by go_num, by omega, HY, B9⟩
            case measure => simp [intOf]; omega
          · have hlt2 : ¬ (k : Int) < (l.length : Int) := by omega
            have HF : Hid (S = lock ⟨(m : Int), hb⟩ l) := by
              show _ = _
              rw [HSS.out, HX.out, List.take_of_length_le (by omega), ← txt_app]
              unfold lock
              rw [if_pos HN.out]
            go_wp2
            go_ret
            exact ⟨by rw [← HF.out]; rfl, B7.out⟩
    · have h61 : (60 : Int) < (l.length : Int) := by omega
      have HN : Hid (lockOk ⟨(m : Int), hb⟩ l = false) := by show _ = _; rw [HK.out, HK0.out, decide_eq_false h60]; rfl
      go_wp2
      go_ret
      exact ⟨by rw [lock_no HN.out]; rfl, B2.out⟩

end Go.Proofs.YtbopliahafkecaaDoor.Lk
