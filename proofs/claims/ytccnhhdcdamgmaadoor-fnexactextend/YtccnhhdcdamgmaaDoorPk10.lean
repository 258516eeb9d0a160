/- Texts in one: ShaG, TsE, TsG. -/
import Derived.Test.YtccnhhdcdamgmaaDoorPk2
import Derived.Test.YtccnhhdcdamgmaaDoorRows
import Derived.Test.YtccnhhdcdamgmaaDoorPk3
import Derived.Lib.LaidTab
import Derived.MakeChecks
/- From the row's list of variables to the program's two tables of words. -/
namespace Go.Proofs.YtccnhhdcdamgmaaDoor.Sha
open Go.RowKit Go.Proofs.YtccnhhdcdamgmaaDoor.Mem Go.Proofs.YtccnhhdcdamgmaaDoor.Laws Go.Proofs.YtccnhhdcdamgmaaDoor.Bytes
set_option linter.unusedVariables false

theorem gRoot : Tryd.prog.globalNamed "loop.example/g00233/impl.rootWords" = some 4 := by kernel_rfl
theorem gRound : Tryd.prog.globalNamed "loop.example/g00233/impl.roundWords" = some 5 := by kernel_rfl
theorem tRoot : (Tryd.prog.globals[4]?).map (·.type) = some 116 := by kernel_rfl
theorem tRound : (Tryd.prog.globals[5]?).map (·.type) = some 132 := by kernel_rfl
theorem cEl : Tryd.prog.cellsOf 115 = 1 := by kernel_rfl
theorem cRoot : Tryd.prog.cellsOf 116 = 8 := by kernel_rfl
theorem cRound : Tryd.prog.cellsOf 132 = 64 := by kernel_rfl

theorem var_heap {P : Program} {W : World} {n : String} {g : Nat} {cs : Array Value} (hg : P.globalNamed n = some g) (hv : W.var? P n = some cs) : ∃ t fr, W.heap[g]? = some (.cells cs t fr) := by
  unfold World.var? at hv
  rw [hg] at hv
  simp only [Option.bind_some] at hv
  split at hv
  · rename_i c t fr h
    obtain rfl := Option.some.inj hv
    exact ⟨t, fr, h⟩
  · cases hv

theorem glob_of {W : World} (h : laidMet Tryd.prog [("loop.example/g00233/impl.rootWords", Rows.laid_loop_example_g00233_impl_rootWords), ("loop.example/g00233/impl.roundWords", Rows.laid_loop_example_g00233_impl_roundWords)] W) : Glob W := by
  obtain ⟨ps, ⟨g0, t0, cs0, f0, p0, q0, hg0, ht0, hv0, hd0, ⟨g1, t1, cs1, f1, p1, q1, hg1, ht1, hv1, hd1, _, _⟩, _⟩, _, _⟩ := h
  obtain rfl := Option.some.inj (gRoot.symm.trans hg0)
  obtain rfl := Option.some.inj (gRound.symm.trans hg1)
  obtain rfl := Option.some.inj (tRoot.symm.trans ht0)
  obtain rfl := Option.some.inj (tRound.symm.trans ht1)
  have e0 : Rows.laid_loop_example_g00233_impl_rootWords = Lib.tabData (H := Unit) .u32 (H0.map fun n : Nat => (n : Int)) := rfl
  have e1 : Rows.laid_loop_example_g00233_impl_roundWords = Lib.tabData (H := Unit) .u32 (KC.map fun n : Nat => (n : Int)) := rfl
  rw [e0] at hd0
  rw [e1] at hd1
  have c0 := Lib.cells_of_tab Tryd.underlying116 Tryd.underlying115 cEl cRoot hd0
  have c1 := Lib.cells_of_tab Tryd.underlying132 Tryd.underlying115 cEl cRound hd1
  refine ⟨?_, fun j hj => ?_⟩
  · obtain ⟨t, fr, hh⟩ := var_heap gRoot hv0
    have e : cs0 = a8 H0 := by
      apply Array.ext'
      rw [c0]
      rfl
    rw [e] at hh
    exact ⟨t, fr, hh⟩
  · rw [World.var?_cell gRound hv1 j]
    have e : cs1[j]? = cs1.toList[j]? := by simp
    rw [e, c1]
    have hl : j < KC.length := hj
    simp [List.getD, hl]

end Go.Proofs.YtccnhhdcdamgmaaDoor.Sha

/- Chapter 6, the landed code: paths held against a root. -/
namespace Go.Proofs.YtccnhhdcdamgmaaDoor.Tr
open Go.RowKit Go.Proofs.YtccnhhdcdamgmaaDoor.Mem Go.Proofs.YtccnhhdcdamgmaaDoor.Laws Go.Proofs.YtccnhhdcdamgmaaDoor.Bytes Go.Proofs.YtccnhhdcdamgmaaDoor.Sha
set_option linter.unusedVariables false
set_option linter.unusedSimpArgs false

set_option maxRecDepth 1000000 in
set_option maxHeartbeats 2000000 in
theorem rise_any : ∀ (N n : Nat), n ≤ N → 1 ≤ n → n ≤ 200 → ∀ (w : World) (v : Value) (gs g : Nat) (s : ByteArray) (i : Nat) (p : List ByteArray), Glob w → Sl w v (ss p) → i ≤ 1000000 → s.size ≤ 10000000000 → p.length ≤ 1000000000000 → (∀ t ∈ p, t.size ≤ 10000000000) →
    w.cell? ⟨gs, 0, none⟩ = some (.string s) → w.cell? ⟨g, 0, none⟩ = some (.func (.func 67) #[] #[.pointer (some ⟨gs, 0, none⟩), .pointer (some ⟨g, 0, none⟩)]) →
    Calls Tryd.prog 67 #[.int .i64 (i : Int), .int .i64 (n : Int), v, .pointer (some ⟨gs, 0, none⟩), .pointer (some ⟨g, 0, none⟩)] w fun e w' => e = .returned (.tuple #[.string (up (leafH s) i n p).1, .bool (up (leafH s) i n p).2]) ∧ Below w.heap.size w w' := by
  intro N
  induction N with
  | zero => intro n hN h1; omega
  | succ N ih =>
    intro n hN h1 hn w v gs g s i p hG h hi hs hpl hz hcs hc
    by_cases h2 : 2 ≤ n
    · have d1 : ((n : Int) == 1) = false := by rw [beq_eq_false_iff_ne]; omega
      rcases List.eq_nil_or_concat p with rfl | ⟨q, last, rfl⟩
      · have HN : Hid (up (leafH s) i n [] = (⟨#[]⟩, false)) := up_nil h2 (leafH s) i
        have q := cut_nil w v h
        clear ih hz hc hcs
        go_enter Tryd.func67, Tryd.ntmps67
        go_wp2_with fail
        refine q.mono ?_
        rintro e w1 ⟨rfl, hw1⟩
        have hw1 := hw1.symm
        subst hw1
        go_wp2
        go_ret2
        exact ⟨by rw [HN.out]; rfl, Below.refl _ _⟩
      · rw [List.concat_eq_append] at *
        have hpl' : q.length + 1 ≤ 1000000000000 := by rw [List.length_append] at hpl; exact hpl
        have qc := cut_any w v q last h (by omega)
        have hk := half_ok h2
        have hp := half_pos h2
        have HL : Hid (i < half n → up (leafH s) i n (q ++ [last]) = (nodeH (up (leafH s) i (half n) q).1 last, (up (leafH s) i (half n) q).2)) := fun hj => up_low h2 hj (leafH s) last q
        have HH : Hid (¬ i < half n → up (leafH s) i n (q ++ [last]) = (nodeH last (up (leafH s) (i - half n) (n - half n) q).1, (up (leafH s) (i - half n) (n - half n) q).2)) := fun hj => up_high h2 hj (leafH s) last q
        have q0 : ∀ W, _ := fun W => half_impl W n h2 (by omega)
        obtain ⟨k, hkk⟩ : ∃ k, half n = k := ⟨_, rfl⟩
        simp only [hkk] at hk hp HL HH q0
        obtain ⟨_, hk1, hk2⟩ := hk
        have hlz := hz last (by simp)
        have hqz : ∀ t ∈ q, t.size ≤ 10000000000 := fun t ht => hz t (by simp [ht])
        have hlf : (leafH s).size ≤ 10000000000 := by rw [leafH_size]; omega
        clear hz hpl h
        by_cases hik : i < k
        · have HP : Hid (up (leafH s) i n (q ++ [last]) = (nodeH (up (leafH s) i k q).1 last, (up (leafH s) i k q).2)) := HL.out hik
          have hxz := up_size (n := k) (i := i) (p := q) hlf
          have q1 : ∀ W v1, Below w.heap.size w W → Sl w v1 (ss q) → _ := fun W v1 hW s1 => ih k (by omega) (by omega) (by omega) W v1 gs g s i q (hG.later hW) (s1.later hW) hi hs (by omega) hqz (keepB hcs hW) (keepB hc hW)
          obtain ⟨x, hx⟩ : ∃ x, (up (leafH s) i k q).1 = x := ⟨_, rfl⟩
          obtain ⟨y, hy⟩ : ∃ x, (up (leafH s) i k q).2 = x := ⟨_, rfl⟩
          simp only [hx, hy] at q1
          rw [hx, hy] at HP
          rw [hx] at hxz
          have q2 : ∀ W, Below w.heap.size w W → _ := fun W hW => node_impl W x last (hG.later hW) (by omega) (by omega)
          have hik' : (i : Int) < (k : Int) := by omega
          clear hx hy
          clear ih HL HH hik hqz hkk
          go_enter Tryd.func67, Tryd.ntmps67
          go_wp2_with fail
          refine qc.mono ?_
          rintro e w1 ⟨v1, rfl, s1, b1⟩
          have q0 := q0 w1
          have q1 := q1 w1 v1 b1 s1
          have hc1 := keepB hc b1
          clear s1 hc qc
          go_wp2_with fail
          refine q0.mono ?_
          rintro e w2 ⟨rfl, hw2⟩
          have hw2 := hw2.symm
          subst hw2
          go_wp2_with fail
          refine q1.mono ?_
          rintro e w2 ⟨rfl, b2⟩
          have B2 : Below w.heap.size w w2 := b1.trans (b2.mono b1.size)
          have q2 := q2 w2 B2
          clear hc1 q1 b1 b2
          go_wp2_with fail
          refine q2.mono ?_
          rintro e w3 ⟨rfl, b3⟩
          have B3 : Below w.heap.size w w3 := B2.trans (b3.mono B2.size)
          go_wp2
          go_ret2
          exact ⟨by rw [HP.out]; rfl, B3⟩
        · have HP : Hid (up (leafH s) i n (q ++ [last]) = (nodeH last (up (leafH s) (i - k) (n - k) q).1, (up (leafH s) (i - k) (n - k) q).2)) := HH.out hik
          have hxz := up_size (n := n - k) (i := i - k) (p := q) hlf
          have q1 : ∀ W v1, Below w.heap.size w W → Sl w v1 (ss q) → _ := fun W v1 hW s1 => ih (n - k) (by omega) (by omega) (by omega) W v1 gs g s (i - k) q (hG.later hW) (s1.later hW) (by omega) hs (by omega) hqz (keepB hcs hW) (keepB hc hW)
          obtain ⟨x, hx⟩ : ∃ x, (up (leafH s) (i - k) (n - k) q).1 = x := ⟨_, rfl⟩
          obtain ⟨y, hy⟩ : ∃ x, (up (leafH s) (i - k) (n - k) q).2 = x := ⟨_, rfl⟩
          simp only [hx, hy] at q1
          rw [hx, hy] at HP
          rw [hx] at hxz
          have q2 : ∀ W, Below w.heap.size w W → _ := fun W hW => node_impl W last x (hG.later hW) (by omega) (by omega)
          have hik' : ¬ (i : Int) < (k : Int) := by omega
          have w1' : IntKind.i64.wrap ((i : Int) - (k : Int)) = ((i - k : Nat) : Int) := by rw [IntKind.wrap_i64]; omega
          have w2' : IntKind.i64.wrap ((n : Int) - (k : Int)) = ((n - k : Nat) : Int) := by rw [IntKind.wrap_i64]; omega
          clear hx hy
          clear ih HL HH hik hqz hkk
          go_enter Tryd.func67, Tryd.ntmps67
          go_wp2_with fail
          refine qc.mono ?_
          rintro e w1 ⟨v1, rfl, s1, b1⟩
          have q0 := q0 w1
          have q1 := q1 w1 v1 b1 s1
          have hc1 := keepB hc b1
          clear s1 hc qc
          go_wp2_with fail
          refine q0.mono ?_
          rintro e w2 ⟨rfl, hw2⟩
          have hw2 := hw2.symm
          subst hw2
          go_wp2_with fail
          refine q1.mono ?_
          rintro e w2 ⟨rfl, b2⟩
          have B2 : Below w.heap.size w w2 := b1.trans (b2.mono b1.size)
          have q2 := q2 w2 B2
          clear hc1 q1 b1 b2
          go_wp2_with fail
          refine q2.mono ?_
          rintro e w3 ⟨rfl, b3⟩
          have B3 : Below w.heap.size w w3 := B2.trans (b3.mono B2.size)
          go_wp2
          go_ret2
          exact ⟨by rw [HP.out]; rfl, B3⟩
    · have HN : Hid (up (leafH s) i n p = (leafH s, p.isEmpty)) := up_no h2 (leafH s) i p
      obtain rfl : n = 1 := by omega
      have q := leaf_impl w s hG (by omega)
      obtain ⟨ao, cap, rfl, hcap, _⟩ := h
      have dE : (((ss p).length : Int) == 0) = p.isEmpty := by rw [ss_len]; cases p <;> simp <;> omega
      clear ih hz hc h2
      go_enter Tryd.func67, Tryd.ntmps67
      go_wp2_with fail
      refine q.mono ?_
      rintro e w1 ⟨rfl, b1⟩
      go_wp2
      go_ret2
      exact ⟨by rw [HN.out]; rfl, b1⟩

set_option maxRecDepth 1000000 in
set_option maxHeartbeats 2000000 in
theorem checkIn_impl (w : World) (v : Value) (s : ByteArray) (i n : Int) (p : List ByteArray) (r : ByteArray) (hG : Glob w) (h : Sl w v (ss p)) (hl : p.length ≤ 1000000000000) (hs : s.size ≤ 10000000000) (hz : ∀ s ∈ p, s.size ≤ 10000000000) :
    Calls Tryd.prog 23 #[.string s, .int .i64 i, .int .i64 n, v, .string r] w fun e w' => e = .returned (.bool (checkIn s i n p r)) ∧ Below w.heap.size w w' := by
  have hB0 : ∀ (u : Value) (t : TypeId), Below w.heap.size w (w.alloc (.cells #[u] t)) := fun u t => (Below.refl _ _).alloc (Nat.le_refl _) _
  by_cases hin : (1 ≤ n ∧ n ≤ 200) ∧ 0 ≤ i ∧ i ≤ n - 1
  · have HN : Hid (checkIn s i n p r = ((up (leafH s) i.toNat n.toNat p).2 && eq6 (up (leafH s) i.toNat n.toNat p).1 r)) := by show _ = _; unfold checkIn; rw [if_pos hin]
    obtain ⟨⟨i1, i2⟩, i3, i4⟩ := hin
    obtain ⟨a, rfl⟩ : ∃ a : Nat, i = (a : Int) := ⟨i.toNat, by omega⟩
    obtain ⟨m, rfl⟩ : ∃ m : Nat, n = (m : Int) := ⟨n.toNat, by omega⟩
    rw [Int.toNat_natCast, Int.toNat_natCast] at HN
    have d1 : ¬ (a : Int) < 0 := by omega
    have d2 : ¬ (m : Int) ≤ (a : Int) := by omega
    have d3 : ¬ (200 : Int) < (m : Int) := by omega
    have hB : ∀ (u : Value) (t : TypeId), Below w.heap.size w ((w.alloc (.cells #[.string s] 9)).alloc (.cells #[u] t)) := fun u t => (hB0 _ _).alloc (hB0 _ _).size _
    have q : ∀ (t : TypeId), _ := fun t => rise_any m m (Nat.le_refl _) (by omega) (by omega) ((w.alloc (.cells #[.string s] 9)).alloc (.cells #[.func (.func 67) #[] #[.pointer (some ⟨w.heap.size, 0, none⟩), .pointer (some ⟨w.heap.size + 1, 0, none⟩)]] t)) v w.heap.size (w.heap.size + 1) s a p (hG.later (hB _ t)) (h.later (hB _ t)) (by omega) hs hl hz
      (by rw [(Below.refl (w.alloc (.cells #[.string s] 9)).heap.size (w.alloc (.cells #[.string s] 9))).alloc (Nat.le_refl _) _ |>.cell (by simp)]; exact new_cellT _ _ _)
      (by simp)
    obtain ⟨x, hx⟩ : ∃ x, (up (leafH s) a m p).1 = x := ⟨_, rfl⟩
    obtain ⟨y, hy⟩ : ∃ x, (up (leafH s) a m p).2 = x := ⟨_, rfl⟩
    rw [hx, hy] at HN
    simp only [hx, hy] at q
    clear h hz i1 i2 i3 i4 hx hy
    go_enter Tryd.func23, Tryd.ntmps23
    go_wp2_with fail
    refine (q _).mono ?_
    rintro e w1 ⟨rfl, b1⟩
    have B1 : Below w.heap.size w w1 := (hB _ _).trans (b1.mono (hB _ _).size)
    clear q b1
    cases y
    · go_wp2
      go_ret
      exact ⟨by rw [HN.out]; rfl, B1⟩
    · go_wp2
      go_ret
      exact ⟨by rw [HN.out]; rfl, B1⟩
  · have HN : Hid (checkIn s i n p r = false) := by show _ = _; unfold checkIn; rw [if_neg hin]
    obtain ⟨ao, cap, rfl, hcap, _⟩ := h
    clear hz
    by_cases e1 : i < 0
    · clear hin
      go_enter Tryd.func23, Tryd.ntmps23
      go_wp2
      go_ret
      exact ⟨by rw [HN.out]; rfl, hB0 _ _⟩
    by_cases e2 : n ≤ i
    · clear hin
      go_enter Tryd.func23, Tryd.ntmps23
      go_wp2
      go_ret
      exact ⟨by rw [HN.out]; rfl, hB0 _ _⟩
    · have e3 : (200 : Int) < n := by omega
      clear hin
      go_enter Tryd.func23, Tryd.ntmps23
      go_wp2
      go_ret
      exact ⟨by rw [HN.out]; rfl, hB0 _ _⟩

end Go.Proofs.YtccnhhdcdamgmaaDoor.Tr

/- Chapter 6, the landed code: paths of beginnings, held against two roots. -/
namespace Go.Proofs.YtccnhhdcdamgmaaDoor.Tr
open Go.RowKit Go.Proofs.YtccnhhdcdamgmaaDoor.Mem Go.Proofs.YtccnhhdcdamgmaaDoor.Laws Go.Proofs.YtccnhhdcdamgmaaDoor.Bytes Go.Proofs.YtccnhhdcdamgmaaDoor.Sha
set_option linter.unusedVariables false
set_option linter.unusedSimpArgs false

/-- what the landed code tells of a path of a beginning: where the path has as many as it must, the two roots -/
def Rs (z : ByteArray × ByteArray × Bool) (x y : ByteArray) (ok : Bool) : Prop := ok = z.2.2 ∧ (ok = true → x = z.1 ∧ y = z.2.1) ∧ x.size ≤ 10000000000 ∧ y.size ≤ 10000000000
theorem Rs.self {z : ByteArray × ByteArray × Bool} (h1 : z.1.size ≤ 10000000000) (h2 : z.2.1.size ≤ 10000000000) : Rs z z.1 z.2.1 z.2.2 := ⟨rfl, fun _ => ⟨rfl, rfl⟩, h1, h2⟩
theorem Rs.no {x y : ByteArray} (h1 : x.size ≤ 10000000000) (h2 : y.size ≤ 10000000000) : Rs (⟨#[]⟩, ⟨#[]⟩, false) x y false := ⟨rfl, fun h => (by cases h), h1, h2⟩
theorem Rs.low {z : ByteArray × ByteArray × Bool} {x y last : ByteArray} {ok : Bool} (h : Rs z x y ok) : Rs (z.1, nodeH z.2.1 last, z.2.2) x (nodeH y last) ok :=
  ⟨h.1, fun k => ⟨(h.2.1 k).1, by rw [(h.2.1 k).2]⟩, h.2.2.1, by rw [nodeH_size]; omega⟩
theorem Rs.high {z : ByteArray × ByteArray × Bool} {x y last : ByteArray} {ok : Bool} (h : Rs z x y ok) : Rs (nodeH last z.1, nodeH last z.2.1, z.2.2) (nodeH last x) (nodeH last y) ok :=
  ⟨h.1, fun k => ⟨by rw [(h.2.1 k).1], by rw [(h.2.1 k).2]⟩, by rw [nodeH_size]; omega, by rw [nodeH_size]; omega⟩

set_option maxRecDepth 1000000 in
set_option maxHeartbeats 2000000 in
theorem grown1_any : ∀ (N m : Nat), m ≤ N → m ≤ 200 → ∀ (w : World) (v : Value) (ga g : Nat) (n : Nat) (whole : Bool) (a : ByteArray) (p : List ByteArray), 1 ≤ n → n ≤ m → Glob w → Sl w v (ss p) → a.size ≤ 10000000000 → p.length ≤ 1000000000000 → (∀ t ∈ p, t.size ≤ 10000000000) →
    w.cell? ⟨ga, 0, none⟩ = some (.string a) → w.cell? ⟨g, 0, none⟩ = some (.func (.func 92) #[] #[.pointer (some ⟨ga, 0, none⟩), .pointer (some ⟨g, 0, none⟩)]) →
    Calls Tryd.prog 92 #[.int .i64 (n : Int), .int .i64 (m : Int), .bool whole, v, .pointer (some ⟨ga, 0, none⟩), .pointer (some ⟨g, 0, none⟩)] w fun e w' => ∃ x y ok, e = .returned (.tuple #[.string x, .string y, .bool ok]) ∧ Rs (grown n m whole a p) x y ok ∧ Below w.heap.size w w' := by
  intro N
  induction N with
  | zero => intro m hN h1 w v ga g n whole a p hn1 hn2; omega
  | succ N ih =>
    intro m hN hm w v ga g n whole a p hn1 hn2 hG h ha hpl hz hca hc
    by_cases hn : n = m
    · subst hn
      cases whole
      · rcases List.eq_nil_or_concat p with rfl | ⟨q, last, rfl⟩
        · have HN : Hid (grown n n false a [] = (⟨#[]⟩, ⟨#[]⟩, false)) := grown_not a (by simp)
          have q := cut_nil w v h
          clear ih hz hc hca
          go_enter Tryd.func92, Tryd.ntmps92
          go_wp2_with fail
          refine q.mono ?_
          rintro e w1 ⟨rfl, hw1⟩
          have hw1 := hw1.symm
          subst hw1
          go_wp2
          go_ret3
          exact ⟨_, _, _, rfl, by rw [HN.out]; exact Rs.no (Nat.zero_le _) (Nat.zero_le _), Below.refl _ _⟩
        · rw [List.concat_eq_append] at *
          have hpl' : q.length + 1 ≤ 1000000000000 := by rw [List.length_append] at hpl; exact hpl
          have qc := cut_any w v q last h (by omega)
          have hlz := hz last (by simp)
          have HR : Hid (Rs (grown n n false a (q ++ [last])) last last q.isEmpty) := by
            show Rs _ _ _ _
            cases q with
            | nil => rw [List.nil_append, grown_one]; exact ⟨rfl, fun _ => ⟨rfl, rfl⟩, hlz, hlz⟩
            | cons s q => rw [grown_not a (by simp)]; exact Rs.no hlz hlz
          have dE : (((ss q).length : Int) == 0) = q.isEmpty := by rw [ss_len]; cases q <;> simp <;> omega
          clear ih hz hc hca h hpl
          go_enter Tryd.func92, Tryd.ntmps92
          go_wp2_with fail
          refine qc.mono ?_
          rintro e w1 ⟨v1, rfl, s1, b1⟩
          obtain ⟨ao, cap, rfl, hcap, _⟩ := s1
          clear qc
          go_wp2
          go_ret3
          exact ⟨_, _, _, rfl, HR.out, b1⟩
      · have HN : Hid (grown n n true a p = (a, a, p.isEmpty)) := grown_whole n a p
        obtain ⟨ao, cap, rfl, hcap, _⟩ := h
        have dE : (((ss p).length : Int) == 0) = p.isEmpty := by rw [ss_len]; cases p <;> simp <;> omega
        clear ih hz hc
        go_enter Tryd.func92, Tryd.ntmps92
        go_wp2_with fail
        go_quiet (fail)
        go_wp2
        go_ret3
        exact ⟨_, _, _, rfl, by rw [HN.out]; exact Rs.self ha ha, below_drewN (Below.refl _ _) _⟩
    · have h2 : 2 ≤ m := by omega
      have dd : ((n : Int) == (m : Int)) = false := by rw [beq_eq_false_iff_ne]; omega
      rcases List.eq_nil_or_concat p with rfl | ⟨q, last, rfl⟩
      · have HN : Hid (grown n m whole a [] = (⟨#[]⟩, ⟨#[]⟩, false)) := grown_nil hn h2 whole a
        have q := cut_nil w v h
        clear ih hz hc hca
        go_enter Tryd.func92, Tryd.ntmps92
        go_wp2_with fail
        refine q.mono ?_
        rintro e w1 ⟨rfl, hw1⟩
        have hw1 := hw1.symm
        subst hw1
        go_wp2
        go_ret3
        exact ⟨_, _, _, rfl, by rw [HN.out]; exact Rs.no (Nat.zero_le _) (Nat.zero_le _), Below.refl _ _⟩
      · rw [List.concat_eq_append] at *
        have hpl' : q.length + 1 ≤ 1000000000000 := by rw [List.length_append] at hpl; exact hpl
        have qc := cut_any w v q last h (by omega)
        have hk := half_ok h2
        have hp := half_pos h2
        have HL : Hid (n ≤ half m → grown n m whole a (q ++ [last]) = ((grown n (half m) whole a q).1, nodeH (grown n (half m) whole a q).2.1 last, (grown n (half m) whole a q).2.2)) := fun hj => grown_low hn h2 hj whole a last q
        have HH : Hid (¬ n ≤ half m → grown n m whole a (q ++ [last]) = (nodeH last (grown (n - half m) (m - half m) false a q).1, nodeH last (grown (n - half m) (m - half m) false a q).2.1, (grown (n - half m) (m - half m) false a q).2.2)) := fun hj => grown_high hn h2 hj whole a last q
        have q0 : ∀ W, _ := fun W => half_impl W m h2 (by omega)
        obtain ⟨k, hkk⟩ : ∃ k, half m = k := ⟨_, rfl⟩
        simp only [hkk] at hk hp HL HH q0
        obtain ⟨_, hk1, hk2⟩ := hk
        have hlz := hz last (by simp)
        have hqz : ∀ t ∈ q, t.size ≤ 10000000000 := fun t ht => hz t (by simp [ht])
        clear hz hpl h
        by_cases hik : n ≤ k
        · have HP : Hid (∀ x y ok, Rs (grown n k whole a q) x y ok → Rs (grown n m whole a (q ++ [last])) x (nodeH y last) ok) := by
            intro x y ok hr
            rw [HL.out hik]
            exact hr.low
          have q1 : ∀ W v1, Below w.heap.size w W → Sl w v1 (ss q) → _ := fun W v1 hW s1 => ih k (by omega) (by omega) W v1 ga g n whole a q hn1 hik (hG.later hW) (s1.later hW) ha (by omega) hqz (keepB hca hW) (keepB hc hW)
          have q2 : ∀ W, Below w.heap.size w W → ∀ y : ByteArray, y.size ≤ 10000000000 → _ := fun W hW y hy => node_impl W y last (hG.later hW) (by omega) (by omega)
          have hik' : (n : Int) ≤ (k : Int) := by omega
          clear ih HL HH hik hqz hkk hn
          go_enter Tryd.func92, Tryd.ntmps92
          go_wp2_with fail
          refine qc.mono ?_
          rintro e w1 ⟨v1, rfl, s1, b1⟩
          have q0 := q0 w1
          have q1 := q1 w1 v1 b1 s1
          have hc1 := keepB hc b1
          clear s1 hc qc
          go_wp2_with fail
          refine q0.mono ?_
          rintro e w2 ⟨rfl, hw2⟩
          have hw2 := hw2.symm
          subst hw2
          go_wp2_with fail
          refine q1.mono ?_
          rintro e w2 ⟨x, y, ok, rfl, hr, b2⟩
          have B2 : Below w.heap.size w w2 := b1.trans (b2.mono b1.size)
          clear hc1 q1 b1 b2
          go_wp2_with fail
          refine (q2 w2 B2 _ hr.2.2.2).mono ?_
          rintro e w3 ⟨rfl, b3⟩
          have B3 : Below w.heap.size w w3 := B2.trans (b3.mono B2.size)
          clear q2 b3
          go_wp2
          go_ret3
          exact ⟨_, _, _, rfl, HP.out x y ok hr, B3⟩
        · have HP : Hid (∀ x y ok, Rs (grown (n - k) (m - k) false a q) x y ok → Rs (grown n m whole a (q ++ [last])) (nodeH last x) (nodeH last y) ok) := by
            intro x y ok hr
            rw [HH.out hik]
            exact hr.high
          have q1 : ∀ W v1, Below w.heap.size w W → Sl w v1 (ss q) → _ := fun W v1 hW s1 => ih (m - k) (by omega) (by omega) W v1 ga g (n - k) false a q (by omega) (by omega) (hG.later hW) (s1.later hW) ha (by omega) hqz (keepB hca hW) (keepB hc hW)
          have q2 : ∀ W, Below w.heap.size w W → ∀ y : ByteArray, y.size ≤ 10000000000 → _ := fun W hW y hy => node_impl W last y (hG.later hW) (by omega) (by omega)
          have hik' : ¬ (n : Int) ≤ (k : Int) := by omega
          have w1' : IntKind.i64.wrap ((n : Int) - (k : Int)) = ((n - k : Nat) : Int) := by rw [IntKind.wrap_i64]; omega
          have w2' : IntKind.i64.wrap ((m : Int) - (k : Int)) = ((m - k : Nat) : Int) := by rw [IntKind.wrap_i64]; omega
          clear ih HL HH hik hqz hkk hn
          go_enter Tryd.func92, Tryd.ntmps92
          go_wp2_with fail
          refine qc.mono ?_
          rintro e w1 ⟨v1, rfl, s1, b1⟩
          have q0 := q0 w1
          have q1 := q1 w1 v1 b1 s1
          have hc1 := keepB hc b1
          clear s1 hc qc
          go_wp2_with fail
          refine q0.mono ?_
          rintro e w2 ⟨rfl, hw2⟩
          have hw2 := hw2.symm
          subst hw2
          go_wp2_with fail
          refine q1.mono ?_
          rintro e w2 ⟨x, y, ok, rfl, hr, b2⟩
          have B2 : Below w.heap.size w w2 := b1.trans (b2.mono b1.size)
          clear hc1 q1 b1 b2
          go_wp2_with fail
          refine (q2 w2 B2 _ hr.2.2.1).mono ?_
          rintro e w4 ⟨rfl, b4⟩
          have B4 : Below w.heap.size w w4 := B2.trans (b4.mono B2.size)
          clear b4
          go_wp2_with fail
          refine (q2 w4 B4 _ hr.2.2.2).mono ?_
          rintro e w3 ⟨rfl, b3⟩
          have B3 : Below w.heap.size w w3 := B4.trans (b3.mono B4.size)
          clear q2 b3
          go_wp2
          go_ret3
          exact ⟨_, _, _, rfl, HP.out x y ok hr, B3⟩

set_option maxRecDepth 1000000 in
set_option maxHeartbeats 2000000 in
theorem grownRoots_any (w : World) (v : Value) (n m : Nat) (a : ByteArray) (p : List ByteArray) (hn1 : 1 ≤ n) (hn2 : n ≤ m) (hm : m ≤ 200) (hG : Glob w) (h : Sl w v (ss p)) (hl : p.length ≤ 1000000000000) (ha : a.size ≤ 10000000000) (hz : ∀ s ∈ p, s.size ≤ 10000000000) :
    Calls Tryd.prog 72 #[.int .i64 (n : Int), .int .i64 (m : Int), .string a, v] w fun e w' => ∃ x y ok, e = .returned (.tuple #[.string x, .string y, .bool ok]) ∧ Rs (grown n m true a p) x y ok ∧ Below w.heap.size w w' := by
  have hB0 : ∀ (u : Value) (t : TypeId), Below w.heap.size w (w.alloc (.cells #[u] t)) := fun u t => (Below.refl _ _).alloc (Nat.le_refl _) _
  have hB : ∀ (u : Value) (t : TypeId), Below w.heap.size w ((w.alloc (.cells #[.string a] 9)).alloc (.cells #[u] t)) := fun u t => (hB0 _ _).alloc (hB0 _ _).size _
  have q : ∀ (t : TypeId), _ := fun t => grown1_any m m (Nat.le_refl _) hm ((w.alloc (.cells #[.string a] 9)).alloc (.cells #[.func (.func 92) #[] #[.pointer (some ⟨w.heap.size, 0, none⟩), .pointer (some ⟨w.heap.size + 1, 0, none⟩)]] t)) v w.heap.size (w.heap.size + 1) n true a p hn1 hn2 (hG.later (hB _ t)) (h.later (hB _ t)) ha hl hz
    (by rw [(Below.refl (w.alloc (.cells #[.string a] 9)).heap.size (w.alloc (.cells #[.string a] 9))).alloc (Nat.le_refl _) _ |>.cell (by simp)]; exact new_cellT _ _ _)
    (by simp)
  clear h hz
  go_enter Tryd.func72, Tryd.ntmps72
  go_wp2_with fail
  refine (q _).mono ?_
  rintro e w1 ⟨x, y, ok, rfl, hr, b1⟩
  have B1 : Below w.heap.size w w1 := (hB _ _).trans (b1.mono (hB _ _).size)
  clear q b1
  go_wp2
  go_ret3
  exact ⟨_, _, _, rfl, hr, B1⟩

set_option maxRecDepth 1000000 in
set_option maxHeartbeats 2000000 in
theorem checkGrow_impl (w : World) (v : Value) (n m : Int) (a b : ByteArray) (p : List ByteArray) (hG : Glob w) (h : Sl w v (ss p)) (hl : p.length ≤ 1000000000000) (ha : a.size ≤ 10000000000) (hz : ∀ s ∈ p, s.size ≤ 10000000000) :
    Calls Tryd.prog 24 #[.int .i64 n, .int .i64 m, .string a, .string b, v] w fun e w' => e = .returned (.bool (checkGrow n m a b p)) ∧ Below w.heap.size w w' := by
  by_cases e1 : n < 0
  · have HN : Hid (checkGrow n m a b p = false) := by
      show _ = _
      unfold checkGrow
      split
      · rw [if_neg (by omega), if_neg (by omega)]
      · rfl
    obtain ⟨ao, cap, rfl, hcap, _⟩ := h
    clear hz
    go_enter Tryd.func24, Tryd.ntmps24
    go_wp2
    go_ret
    exact ⟨by rw [HN.out]; rfl, Below.refl _ _⟩
  by_cases e2 : m < n
  · have HN : Hid (checkGrow n m a b p = false) := by
      show _ = _
      unfold checkGrow
      split
      · rw [if_neg (by omega), if_neg (by omega)]
      · rfl
    obtain ⟨ao, cap, rfl, hcap, _⟩ := h
    clear hz
    go_enter Tryd.func24, Tryd.ntmps24
    go_wp2
    go_ret
    exact ⟨by rw [HN.out]; rfl, Below.refl _ _⟩
  by_cases e3 : 200 < m
  · have HN : Hid (checkGrow n m a b p = false) := by
      show _ = _
      unfold checkGrow
      rw [if_neg (by omega)]
    obtain ⟨ao, cap, rfl, hcap, _⟩ := h
    clear hz
    go_enter Tryd.func24, Tryd.ntmps24
    go_wp2
    go_ret
    exact ⟨by rw [HN.out]; rfl, Below.refl _ _⟩
  by_cases e4 : n = m
  · subst e4
    have HN : Hid (checkGrow n n a b p = ((a.toList == b.toList) && p.isEmpty)) := by
      show _ = _
      unfold checkGrow eq6
      rw [if_pos (by omega), if_pos rfl]
    obtain ⟨ao, cap, rfl, hcap, _⟩ := h
    have dE : (((ss p).length : Int) == 0) = p.isEmpty := by rw [ss_len]; cases p <;> simp <;> omega
    clear hz
    obtain ⟨t, ht⟩ : ∃ t, (a.toList == b.toList) = t := ⟨_, rfl⟩
    rw [ht] at HN
    cases t
    · go_enter Tryd.func24, Tryd.ntmps24
      go_wp2
      go_ret
      exact ⟨by rw [HN.out]; rfl, Below.refl _ _⟩
    · go_enter Tryd.func24, Tryd.ntmps24
      go_wp2
      go_ret
      exact ⟨by rw [HN.out]; rfl, Below.refl _ _⟩
  have d4 : (n == m) = false := by rw [beq_eq_false_iff_ne]; exact e4
  by_cases e5 : n = 0
  · subst e5
    have HN : Hid (checkGrow 0 m a b p = false) := by
      show _ = _
      unfold checkGrow
      rw [if_pos (by omega), if_neg e4, if_neg (by omega)]
    obtain ⟨ao, cap, rfl, hcap, _⟩ := h
    clear hz
    go_enter Tryd.func24, Tryd.ntmps24
    go_wp2
    go_ret
    exact ⟨by rw [HN.out]; rfl, Below.refl _ _⟩
  have d5 : (n == 0) = false := by rw [beq_eq_false_iff_ne]; exact e5
  have HN : Hid (∀ x y ok, Rs (grown n.toNat m.toNat true a p) x y ok → checkGrow n m a b p = (ok && (x.toList == a.toList) && (y.toList == b.toList))) := by
    intro x y ok hr
    unfold checkGrow eq6
    rw [if_pos (by omega), if_neg e4, if_pos (by omega), ← hr.1]
    cases ok with
    | false => rfl
    | true => rw [(hr.2.1 rfl).1, (hr.2.1 rfl).2]
  obtain ⟨k, rfl⟩ : ∃ k : Nat, n = (k : Int) := ⟨n.toNat, by omega⟩
  obtain ⟨r, rfl⟩ : ∃ r : Nat, m = (r : Int) := ⟨m.toNat, by omega⟩
  rw [Int.toNat_natCast, Int.toNat_natCast] at HN
  have q := grownRoots_any w v k r a p (by omega) (by omega) (by omega) hG h hl ha hz
  clear h hz e4 e5
  go_enter Tryd.func24, Tryd.ntmps24
  go_wp2_with fail
  refine q.mono ?_
  rintro e w1 ⟨x, y, ok, rfl, hr, b1⟩
  have HE : Hid (checkGrow (k : Int) (r : Int) a b p = (ok && (x.toList == a.toList) && (y.toList == b.toList))) := HN.out x y ok hr
  clear q hr HN
  obtain ⟨s, hs⟩ : ∃ s, (x.toList == a.toList) = s := ⟨_, rfl⟩
  rw [hs] at HE
  cases ok
  · go_wp2
    go_ret
    exact ⟨by rw [HE.out]; rfl, b1⟩
  · cases s
    · go_wp2
      go_ret
      exact ⟨by rw [HE.out]; rfl, b1⟩
    · go_wp2
      go_ret
      exact ⟨by rw [HE.out]; rfl, b1⟩

end Go.Proofs.YtccnhhdcdamgmaaDoor.Tr
