/- Texts in one: EsE, KpF, HfO, LhA. -/
import Derived.Test.YtfpaichdkddglabDoorPk25
import Derived.Test.YtfpaichdkddglabDoorPk24
import Derived.Test.YtfpaichdkddglabDoorPk15
import Derived.Test.YtfpaichdkddglabDoorPk11
/- Chapter 7, the landed code: the edge of texts; one more; its root. -/
namespace Go.Proofs.YtfpaichdkddglabDoor.Ed
open Go.RowKit Go.Proofs.YtfpaichdkddglabDoor.Mem Go.Proofs.YtfpaichdkddglabDoor.Laws Go.Proofs.YtfpaichdkddglabDoor.Bytes Go.Proofs.YtfpaichdkddglabDoor.Sha Go.Proofs.YtfpaichdkddglabDoor.Tr
set_option linter.unusedVariables false
set_option linter.unusedSimpArgs false

theorem okE_nil : okE ((0 : Nat) : Int) [] = true := by rw [okE_iff]; exact ⟨by omega, rfl, fun s hs => by cases hs⟩
theorem allE_of (l : List ByteArray) : (allE 0 [] l).1 = ((edgeOf l).1 : Int) ∧ (allE 0 [] l).2.1 = (edgeOf l).2 := by
  by_cases h : l.length ≤ 200
  · have := allE_edge (l := []) (r := l) (by simp; omega)
    rw [edge_nil, List.nil_append] at this
    rw [show ((([] : List ByteArray).length : Nat) : Int) = 0 from rfl] at this
    rw [this]
    unfold edgeOf
    rw [if_pos h]
    exact ⟨rfl, rfl⟩
  · have := allE_full (r := l) okE_nil (by omega)
    rw [show ((0 : Nat) : Int) = 0 from rfl] at this
    rw [this]
    unfold edgeOf
    rw [if_neg h]
    exact ⟨rfl, rfl⟩
theorem allE_one (n : Int) (hs : List ByteArray) (s : ByteArray) : allE n hs [s] = addE n hs s := by
  by_cases h : okE n hs = true ∧ n ≠ 200
  · unfold allE
    rw [goE, addE_yes h.1 h.2, if_pos rfl]
    rfl
  · unfold allE
    rw [goE, addE_no h, if_neg (by simp)]
theorem eroot_join : ∀ (q : List ByteArray) (y r : ByteArray), eroot (q ++ [y, r]) = eroot (q ++ [nodeH y r])
  | [], y, r => rfl
  | [a], y, r => rfl
  | a :: b :: q, y, r => by
    show eroot (a :: (b :: q ++ [y, r])) = eroot (a :: (b :: q ++ [nodeH y r]))
    rw [eroot_cons (by simp), eroot_cons (by simp), eroot_join (b :: q) y r]

/-- 1 of true -/
def bN : Value → Nat
  | .bool true => 1
  | _ => 0

/-- how many a stack has -/
def skLen (w : World) (gs : Nat) : Nat := match w.cell? ⟨gs, 0, none⟩ with
  | some (.slice _ n _) => n
  | _ => 0
theorem Sk.len {w : World} {lo gs : Nat} {hs : List ByteArray} (h : Sk w lo gs hs) : skLen w gs = hs.length := by
  obtain ⟨v, h1, h2, h3⟩ := h
  obtain ⟨ao, cap, rfl⟩ := h3.len
  have : w.cell? ⟨gs, 0, none⟩ = some (.slice ao (ss hs).length cap) := row_at h2 0
  unfold skLen
  rw [this, ss_len]

set_option maxRecDepth 1000000 in
set_option maxHeartbeats 4000000 in
theorem pop_case (w : World) (lo gs : Nat) (q : List ByteArray) (h : Sk w lo gs q) (hl : q.length ≤ 1000000000) : ∃ (y : ByteArray) (mo : Bool) (q1 : List ByteArray), Hid ((mo = true ∧ q = q1 ++ [y]) ∨ (mo = false ∧ q = [] ∧ q1 = [])) ∧
    Calls Tryd.prog 63 #[.pointer (some ⟨gs, 0, none⟩)] w fun e w' => e = .returned (.tuple #[.string y, .bool mo]) ∧ Sk w' lo gs q1 ∧ Below lo w w' := by
  by_cases hn : q = []
  · subst hn
    refine ⟨⟨#[]⟩, false, [], .inr ⟨rfl, rfl, rfl⟩, (pop_none w lo gs h).mono ?_⟩
    rintro e w' ⟨rfl, rfl⟩
    exact ⟨rfl, h, Below.refl _ _⟩
  · have hq := (List.dropLast_concat_getLast hn).symm
    refine ⟨q.getLast hn, true, q.dropLast, .inl ⟨rfl, hq⟩, ?_⟩
    exact pop_some w lo gs q.dropLast (q.getLast hn) (by rw [← hq]; exact h) (by rw [List.length_dropLast]; omega)

/-- what a round of EdgeRoot keeps -/
def Inv (w wr : World) (gs : Nat) (r y : ByteArray) (mo : Bool) (t : ByteArray) : Prop :=
  ∃ q : List ByteArray, Sk wr w.heap.size gs q ∧ Below w.heap.size w wr ∧ q.length ≤ 1000000000 ∧
    (mo = true → t = eroot (q ++ [y, r]) ∧ (∀ s ∈ q, s.size = 32) ∧ y.size = 32 ∧ r.size = 32) ∧ (mo = false → t = r ∧ q = [])

set_option maxRecDepth 1000000 in
set_option maxHeartbeats 4000000 in
theorem rootE_impl (w : World) (n : Int) (v : Value) (hs : List ByteArray) (hG : Glob w) (h : Sl w v (ss hs)) (hl : hs.length ≤ 1000000000) (hz : ∀ s ∈ hs, s.size ≤ 1000000000000) :
    Calls Tryd.prog 47 #[.agg #[.int .i64 n, v]] w fun e w' => e = .returned (.string (rootE n hs)) ∧ Below w.heap.size w w' := by
  have hB : Below w.heap.size w (w.alloc (.cells #[.int .i64 n, v] 67)) := (Below.refl _ _).alloc (Nat.le_refl _) _
  have r0 : (w.alloc (.cells #[.int .i64 n, v] 67)).heap[w.heap.size]? = some (.cells (ee n v) 67 (0, 0)) := heap_alloc_new w _
  have q := ok_impl (w.alloc (.cells #[.int .i64 n, v] 67)) n v hs (h.later hB) (by omega)
  have q3 : ∀ X, Below w.heap.size w X → _ := fun X hX => texts_impl X v hs (h.later hX) hl hz
  have HG : Hid (∀ X, Below w.heap.size w X → Glob X) := fun X hX => hG.later hX
  have HR0 : Hid _ := r0
  have HB : Hid _ := hB
  obtain ⟨ao, cap, rfl, hcap⟩ := h.form
  simp only [ss_len] at *
  clear r0 hB h hz hG
  by_cases hok : okE n hs = false
  · have HN : Hid (rootE n hs = ⟨#[]⟩) := by show _ = _; unfold rootE; rw [if_neg (by rw [hok]; simp)]
    rw [hok] at q
    clear hok q3
    go_enter Tryd.func47, Tryd.ntmps47
    go_wp2_with (refine wpList_load_row rfl 67 _ rfl w.heap.size rfl 67 (ee n (.slice ao hs.length cap)) (0, 0) _ HR0.out Tryd.underlying67 rfl (sizeEd _ _) ?_)
    refine q.mono ?_
    rintro e w1 ⟨rfl, b1⟩
    have HB1 : Hid (Below w.heap.size w w1) := HB.out.trans (b1.mono HB.out.size)
    clear q b1 HB HR0
    go_wp2
    go_ret
    exact ⟨by rw [HN.out]; rfl, HB1.out⟩
  have hok : okE n hs = true := by
    cases e : okE n hs with
    | false => exact absurd e hok
    | true => rfl
  have HN : Hid (rootE n hs = eroot hs) := by show _ = _; unfold rootE; rw [if_pos hok]
  obtain ⟨⟨i1, i2⟩, i3, i4⟩ := okE_iff.1 hok
  have H32 : Hid (∀ s ∈ hs, s.size = 32) := i4
  rw [hok] at q
  clear hok i3 i4
  go_enter Tryd.func47, Tryd.ntmps47
  go_wp2_with (refine wpList_load_row rfl 67 _ rfl w.heap.size rfl 67 (ee n (.slice ao hs.length cap)) (0, 0) _ HR0.out Tryd.underlying67 rfl (sizeEd _ _) ?_)
  refine q.mono ?_
  rintro e w1 ⟨rfl, b1⟩
  have HB1 : Hid (Below w.heap.size w w1) := HB.out.trans (b1.mono HB.out.size)
  have R0 : w1.heap[w.heap.size]? = some (.cells (ee n (.slice ao hs.length cap)) 67 (0, 0)) := rowKeep HR0.out b1
  have k1 : w1.cell? ⟨w.heap.size, 1, none⟩ = some (.slice ao hs.length cap) := row_at R0 1
  clear q b1 HB HR0 R0
  go_wp2_with fail
  refine (q3 _ HB1.out).mono ?_
  rintro e w2 ⟨v2, rfl, o2, b2⟩
  obtain ⟨ao2, L2, cap2, rfl, _, _⟩ := o2.form
  have B2 : Below w.heap.size w w2 := HB1.out.trans (b2.mono HB1.out.size)
  have HS3 : Hid (Sk (w2.alloc (.cells #[.slice ao2 L2 cap2] 88)) w.heap.size w2.heap.size hs) := ⟨_, B2.size, heap_alloc_new _ _, (o2.mono HB1.out.size (Nat.le_refl _)).alloc _⟩
  have HB3 : Hid (Below w.heap.size w (w2.alloc (.cells #[.slice ao2 L2 cap2] 88))) := B2.alloc B2.size _
  clear q3 o2 b2 B2 HB1 k1
  go_wp2_with fail
  by_cases hn : hs = []
  · have HN' : Hid (rootE n hs = rootOf []) := by show _ = _; rw [HN.out, hn]; rfl
    have q4 := pop_none (w2.alloc (.cells #[.slice ao2 L2 cap2] 88)) w.heap.size w2.heap.size (by have := HS3.out; rw [hn] at this; exact this)
    have q5 := root_impl (w2.alloc (.cells #[.slice ao2 L2 cap2] 88)) (.slice none 0 0) [] (HG.out _ HB3.out) (Sl.nil _) (by simp) (fun s hs => by cases hs)
    clear hn HN H32
    refine q4.mono ?_
    rintro e w4 ⟨rfl, rfl⟩
    clear q4
    go_wp2_with fail
    refine q5.mono ?_
    rintro e w5 ⟨rfl, b5⟩
    have HB5 : Hid (Below w.heap.size w w5) := HB3.out.trans (b5.mono HB3.out.size)
    clear q5 b5 HS3 HB3
    go_wp2
    go_ret
    exact ⟨by rw [HN'.out]; rfl, HB5.out⟩
  obtain ⟨q, x, hq⟩ : ∃ q x, hs = q ++ [x] := ⟨hs.dropLast, hs.getLast hn, (List.dropLast_concat_getLast hn).symm⟩
  have hql : q.length + 1 ≤ 1000000000 := by rw [hq, List.length_append] at hl; simpa using hl
  have q4 := pop_some (w2.alloc (.cells #[.slice ao2 L2 cap2] 88)) w.heap.size w2.heap.size q x (by have := HS3.out; rw [hq] at this; exact this) (by omega)
  have HN' : Hid (rootE n hs = eroot (q ++ [x])) := by show _ = _; rw [HN.out, hq]
  have HQ : Hid (∀ s ∈ q, s.size = 32) := fun s hs' => H32.out s (by rw [hq]; simp [hs'])
  have hx : x.size = 32 := H32.out x (by rw [hq]; simp)
  clear hn HN H32 hq
  refine q4.mono ?_
  rintro e w4 ⟨rfl, s4, b4⟩
  have HB4 : Hid (Below w.heap.size w w4) := HB3.out.trans b4
  have HS4 : Hid (Sk w4 w.heap.size w2.heap.size q) := s4
  clear q4 s4 b4 HS3 HB3
  go_wp2_with fail
  -- the next one
  obtain ⟨y, mo, q1, HY, q5⟩ : ∃ (y : ByteArray) (mo : Bool) (q1 : List ByteArray), Hid ((mo = true ∧ q = q1 ++ [y]) ∨ (mo = false ∧ q = [] ∧ q1 = [])) ∧
      Calls Tryd.prog 63 #[.pointer (some ⟨w2.heap.size, 0, none⟩)] w4 fun e w' => e = .returned (.tuple #[.string y, .bool mo]) ∧ Sk w' w.heap.size w2.heap.size q1 ∧ Below w.heap.size w4 w' := pop_case w4 w.heap.size w2.heap.size q HS4.out (by omega)
  refine q5.mono ?_
  rintro e w5 ⟨rfl, s5, b5⟩
  have HI : Hid (Inv w w5 w2.heap.size x y mo (rootE n hs)) := by
    refine ⟨q1, s5, HB4.out.trans b5, ?_, ?_, ?_⟩
    · rcases HY.out with ⟨_, hh⟩ | ⟨_, hh, rfl⟩
      · have := congrArg List.length hh; simp at this; omega
      · simp
    · intro hm
      rcases HY.out with ⟨_, hh⟩ | ⟨hh, _⟩
      · refine ⟨?_, fun s hs' => HQ.out s (by rw [hh]; simp [hs']), HQ.out y (by rw [hh]; simp), hx⟩
        rw [HN'.out, hh, List.append_assoc]; rfl
      · rw [hm] at hh; cases hh
    · intro hm
      rcases HY.out with ⟨hh, _⟩ | ⟨_, hh, hh2⟩
      · rw [hm] at hh; cases hh
      · rw [HN'.out, hh]; exact ⟨rfl, hh2⟩
  clear q5 s5 b5 HY HB4 HS4 HQ HN'
  go_wp2
  go_loopw [5, 7, 8] (fun a b c wr => ∃ (r y : ByteArray) (mo : Bool), a = .string r ∧ b = .string y ∧ c = .bool mo ∧ Hid (Inv w wr w2.heap.size r y mo (rootE n hs))) (fun _ _ c wr => skLen wr w2.heap.size + bN c)
  case atStart => exact ⟨x, y, mo, rfl, rfl, rfl, HI⟩
  case round =>
    clear HI hx
    obtain ⟨r, y, mo, rfl, rfl, rfl, HI⟩ := hrel
    cases mo
    · have HN : Hid (r = rootE n hs) := by
        obtain ⟨q, h1, h2, h3, h4, h5⟩ := HI.out
        exact (h5 rfl).1.symm
      have HB5 : Hid (Below w.heap.size w wr) := by obtain ⟨q, h1, h2, _⟩ := HI.out; exact h2
      clear HI
      go_wp2
      go_ret
      exact ⟨by rw [HN.out]; rfl, HB5.out⟩
    · obtain ⟨q, h1, h2, h3, h4, h5⟩ := HI.out
      obtain ⟨e1, e2, e3, e4⟩ := h4 rfl
      have HL : Hid (skLen wr w2.heap.size = q.length) := h1.len
      have q6 := node_impl wr y r (HG.out _ h2) (by omega) (by omega)
      have HS1 : Hid (Sk wr w.heap.size w2.heap.size q) := h1
      have HB1 : Hid (Below w.heap.size w wr) := h2
      have HE1 : Hid (rootE n hs = eroot (q ++ [y, r])) := e1
      have HE2 : Hid (∀ s ∈ q, s.size = 32) := e2
      clear HI h1 h2 h4 h5 e1 e2 e3 e4
      go_wp2_with fail
      refine q6.mono ?_
      rintro e w7 ⟨rfl, b7⟩
      have HS7 : Hid (Sk w7 w.heap.size w2.heap.size q) := HS1.out.later b7
      have HB7 : Hid (Below w.heap.size w w7) := HB1.out.trans (b7.mono HB1.out.size)
      clear q6 b7 HS1 HB1
      go_wp2_with fail
      obtain ⟨y', mo, q1, HY, q8⟩ : ∃ (y : ByteArray) (mo : Bool) (q1 : List ByteArray), Hid ((mo = true ∧ q = q1 ++ [y]) ∨ (mo = false ∧ q = [] ∧ q1 = [])) ∧
        Calls Tryd.prog 63 #[.pointer (some ⟨w2.heap.size, 0, none⟩)] w7 fun e w' => e = .returned (.tuple #[.string y, .bool mo]) ∧ Sk w' w.heap.size w2.heap.size q1 ∧ Below w.heap.size w7 w' := pop_case w7 w.heap.size w2.heap.size q HS7.out (by omega)
      refine q8.mono ?_
      rintro e w8 ⟨rfl, s8, b8⟩
      have HL8 : Hid (skLen w8 w2.heap.size = q1.length) := s8.len
      have HI : Hid (Inv w w8 w2.heap.size (nodeH y r) y' mo (rootE n hs)) := by
        refine ⟨q1, s8, HB7.out.trans b8, ?_, ?_, ?_⟩
        · rcases HY.out with ⟨_, hh⟩ | ⟨_, hh, rfl⟩
          · have := congrArg List.length hh; simp at this; omega
          · simp
        · intro hm
          rcases HY.out with ⟨_, hh⟩ | ⟨hh, _⟩
          · refine ⟨?_, fun s hs' => HE2.out s (by rw [hh]; simp [hs']), HE2.out y' (by rw [hh]; simp), nodeH_size _ _⟩
            rw [HE1.out, eroot_join, hh, List.append_assoc]; rfl
          · rw [hm] at hh; cases hh
        · intro hm
          rcases HY.out with ⟨hh, _⟩ | ⟨_, hh, hh2⟩
          · rw [hm] at hh; cases hh
          · rw [HE1.out, hh]; exact ⟨rfl, hh2⟩
      have HM : Hid (q1.length + (if mo = true then 1 else 0) ≤ q.length) := by
        show _ ≤ _
        rcases HY.out with ⟨rfl, hh⟩ | ⟨rfl, hh, rfl⟩
        · rw [hh]; simp
        · simp
      clear q8 s8 b8 HY HB7 HS7 HE1 HE2
      go_wp2
      go_roundw
      case rel => exact ⟨nodeH y r, y', mo, rfl, rfl, rfl, HI⟩
      case measure =>
        have h1 := HM.out
        have h2 := HL.out
        have h3 := HL8.out
        cases mo <;> simp [bN] at h1 ⊢ <;> omega

end Go.Proofs.YtfpaichdkddglabDoor.Ed

/- Chapter 12, the landed code: whether commits make just these texts. -/
namespace Go.Proofs.YtfpaichdkddglabDoor.Sr
open Go.RowKit Go.Proofs.YtfpaichdkddglabDoor.Mem Go.Proofs.YtfpaichdkddglabDoor.Laws Go.Proofs.YtfpaichdkddglabDoor.Bytes Go.Proofs.YtfpaichdkddglabDoor.Sha Go.Proofs.YtfpaichdkddglabDoor.Tr Go.Proofs.YtfpaichdkddglabDoor.He Go.Proofs.YtfpaichdkddglabDoor.Lg
set_option linter.unusedVariables false
set_option linter.unusedSimpArgs false

theorem getC_some {xs : List Int} {a : Nat} {h : Hd} {x : List ByteArray} {p : Int} (hb : Byt xs) (hg : getC xs (a : Int) = (h, x, p, true)) : ∃ q : Nat, p = (q : Int) ∧ a < q ∧ q ≤ xs.length ∧ 1 ≤ x.length ∧ x.length ≤ 200 := by
  obtain ⟨q, rfl, hq, hqx, _, h1, h2, _⟩ := put_get hb hg
  have := put_pos h x
  exact ⟨q, rfl, by omega, hqx, h1, h2⟩
theorem far_len {T x : List ByteArray} {m : Nat} (hm : m ≤ T.length) (hx : T.length - m < x.length) : ¬ (T.take m ++ x) <+: T := by
  intro h
  have := h.length_le
  rw [List.length_append, List.length_take] at this
  omega
theorem allE_take {T x : List ByteArray} {m : Nat} (h2 : T.length ≤ 200) (hm : m ≤ T.length) (hx : x <+: T.drop m) : Ed.allE (m : Int) (Ed.edge (T.take m)) x = (((m + x.length : Nat) : Int), Ed.edge (T.take (m + x.length)), true) := by
  obtain ⟨e1, e2⟩ := take_more hm hx
  have hl : (T.take m).length = m := by rw [List.length_take]; omega
  have := Ed.allE_edge (l := T.take m) (r := x) (by omega)
  rw [hl, e1, List.length_take] at this
  rw [this]
  congr 2
  omega

set_option maxRecDepth 1000000 in
set_option maxHeartbeats 8000000 in
theorem make_impl (w : World) (v vt : Value) (xs : List Int) (T : List ByteArray) (hG : Glob w) (hN : NoC w) (hs : Sl w v (bs xs)) (hb : Byt xs) (hx : xs.length ≤ 1000000000000) (ht : Sl w vt (ss T)) (h2 : T.length ≤ 200) :
    Calls Tryd.prog 31 #[v, vt] w fun e w' => e = .returned (.bool (fin12 xs T xs.length 0 [] (headOf []))) ∧ Below w.heap.size w w' := by
  obtain ⟨R, hR⟩ : ∃ R, fin12 xs T xs.length 0 [] (headOf []) = R := ⟨_, rfl⟩
  have HF0 : Hid (xs.length - 0 ≤ xs.length ∧ fin12 xs T xs.length 0 (T.take 0) (headOf []) = R) := ⟨by omega, hR⟩
  rw [hR]
  have HS : Hid (Sl w v (bs xs)) := hs
  have HT : Hid (Sl w vt (ss T)) := ht
  have HBY : Hid (Byt xs) := hb
  have HG : Hid (Glob w) := hG
  have HN : Hid (NoC w) := hN
  obtain ⟨ao0, cap0, rfl, hc0⟩ := hs.form
  obtain ⟨ao1, cap1, rfl, hc1, hn1, _⟩ := ht
  rw [ss_len] at *
  rw [bs_len] at *
  clear hs hb hR hG hN
  have B0 : Hid (Below w.heap.size w w) := Below.refl _ _
  obtain ⟨W1, HW1, b1, y1, hS1, r_made1⟩ : ∃ X, Hid ((w.alloc (.cells #[.int .i64 0, .slice none 0 0] 67)) = X) ∧ Below w.heap.size w X ∧ w.heap.size + 1 ≤ X.heap.size ∧ Hid (X.heap.size = w.heap.size + 1) ∧ Hid (X.heap[w.heap.size]? = some (.cells #[.int .i64 0, .slice none 0 0] 67 (0, 0))) := ⟨_, rfl, ((Below.refl _ _).alloc (Nat.le_refl _) _), by simp, by show _ = _; simp, (by show _ = _; exact alloc_nth1_0 w _)⟩
  have z1 : w.heap.size ≤ W1.heap.size := b1.size
  have B1 : Hid (Below w.heap.size w W1) := B0.out.trans (b1.mono B0.out.size)
  have c_made1_0 : W1.cell? ⟨w.heap.size, 0, none⟩ = some (.int .i64 0) := row_at r_made1.out 0
  have c_made1_1 : W1.cell? ⟨w.heap.size, 1, none⟩ = some (.slice none 0 0) := row_at r_made1.out 1
  by_cases hT0 : 0 < T.length
  · obtain ⟨bT, offT, capT, he, hcapT⟩ := slForm HT.out (by rw [ss_len]; omega)
    simp only [Value.slice.injEq] at he
    obtain ⟨rfl, -, rfl⟩ := he
    clear hcapT hn1
    have qg : ∀ W, Below w.heap.size w W → ∀ a : Nat, a ≤ xs.length → _ := fun W hW a ha => getc_land W _ xs (a : Int) (HG.out.later hW) (HN.out.later hW) (HS.out.later hW) HBY.out hx (by omega) (by omega)
    go_enter Tryd.func31, Tryd.ntmps31
    go_wp2_with fail
    rw [HW1.out]
    go_loopw [6] (fun iv wr => ∃ (a m f : Nat) (hd : Hd) (ao : Option Addr) (L cap : Nat), a ≤ xs.length ∧ m ≤ T.length ∧ iv = .int .i64 (a : Int) ∧ Hid (xs.length - a ≤ f ∧ fin12 xs T f a (T.take m) hd = R) ∧ Hid (wr.heap[w.heap.size]? = some (.cells #[.int .i64 (m : Int), .slice ao L cap] 67 (0, 0))) ∧ Hid (Own wr W1.heap.size wr.heap.size 9 (.slice ao L cap) (ss (Ed.edge (T.take m)))) ∧ Hid (Below w.heap.size w wr) ∧ W1.heap.size ≤ wr.heap.size) (fun iv _ => xs.length - (intOf iv).toNat)
    case atStart => exact ⟨0, 0, xs.length, headOf [], none, 0, 0, Nat.zero_le _, Nat.zero_le _, rfl, HF0, r_made1, by show Own _ _ _ _ _ _; rw [List.take_zero, Ed.edge_nil]; exact ownNil _ _ _ _, B1, Nat.le_refl _⟩
    case round =>
      obtain ⟨a, m, f, hd, ao_v, L_v, cap_v, ha, hm, rfl, HF, r_made2, o_v2, B2, z2⟩ := hrel
      obtain ⟨W2, hW2⟩ : ∃ X, X = wr := ⟨_, rfl⟩
      subst hW2
      clear HF0 r_made1 c_made1_0 c_made1_1
      have c_made2_0 : W2.cell? ⟨w.heap.size, 0, none⟩ = some (.int .i64 (m : Int)) := row_at r_made2.out 0
      have c_made2_1 : W2.cell? ⟨w.heap.size, 1, none⟩ = some (.slice ao_v L_v cap_v) := row_at r_made2.out 1
      by_cases hlt : a < xs.length
      · have hlt2 : (a : Int) < (xs.length : Int) := by omega
        have q2 := qg W2 B2.out a ha
        obtain ⟨h, x, p, ok, hg⟩ : ∃ h x p ok, getC xs (a : Int) = (h, x, p, ok) := ⟨_, _, _, _, rfl⟩
        unfold GotC at q2
        rw [hg] at q2
        simp only at q2
        have hx2 : x.length ≤ 200 := by
          have h9 := getC_len xs (a : Int)
          rw [hg] at h9
          exact h9
        have HGC : Hid (getC xs (a : Int) = (h, x, p, ok)) := hg
        have HXZ : Hid (∀ s ∈ x, s.size ≤ 1000000000) := getC_size HBY.out hg
        clear hg
        go_wp2_with fail
        refine (q2).mono ?_
        rintro e W3 ⟨v_t, rfl, o_t3, b3⟩
        obtain ⟨ao_t, L_t, cap_t, rfl, hL_t, hM_t⟩ := o_t3.form
        have o_t3 : Hid (Own W3 W2.heap.size W3.heap.size 9 (.slice ao_t L_t cap_t) (ss x)) := o_t3
        clear hL_t hM_t
        have z3 : W2.heap.size ≤ W3.heap.size := b3.size
        have B3 : Hid (Below w.heap.size w W3) := B2.out.trans (b3.mono B2.out.size)
        have r_made3 : Hid (W3.heap[w.heap.size]? = some (.cells #[.int .i64 (m : Int), .slice ao_v L_v cap_v] 67 (0, 0))) := rowKeep r_made2.out b3
        have o_v3 : Hid (Own W3 (W1.heap.size) (W2.heap.size) 9 (.slice ao_v L_v cap_v) (ss (Ed.edge (T.take m)))) := Own.later o_v2.out b3 (by omega)
        have c_made3_0 : W3.cell? ⟨w.heap.size, 0, none⟩ = some (.int .i64 (m : Int)) := row_at r_made3.out 0
        have c_made3_1 : W3.cell? ⟨w.heap.size, 1, none⟩ = some (.slice ao_v L_v cap_v) := row_at r_made3.out 1
        clear r_made2 c_made2_0 c_made2_1 o_v2
        have hLt : L_t ≤ x.length ∧ x.length ≤ L_t := by obtain ⟨a9, L9, c9, he, h1, h2⟩ := Mem.Own.form o_t3.out; injection he with _ he2 _; rw [ss_len] at h1 h2; omega
        clear q2
        have a_made3_0 : ∀ o, (W3.alloc o).cell? ⟨w.heap.size, 0, none⟩ = some (.int .i64 (m : Int)) := fun o => keepR c_made3_0 ((Below.refl _ _).alloc (Nat.le_refl _) o)
        have a_made3_1 : ∀ o, (W3.alloc o).cell? ⟨w.heap.size, 1, none⟩ = some (.slice ao_v L_v cap_v) := fun o => keepR c_made3_1 ((Below.refl _ _).alloc (Nat.le_refl _) o)
        obtain ⟨W4, HW4, b4, y4, hS4, r_h4⟩ : ∃ X, Hid ((W3.alloc (.cells #[.int .i64 h.n, .string h.r] 24)) = X) ∧ Below W3.heap.size W3 X ∧ W3.heap.size + 1 ≤ X.heap.size ∧ Hid (X.heap.size = W3.heap.size + 1) ∧ Hid (X.heap[W3.heap.size]? = some (.cells #[.int .i64 h.n, .string h.r] 24 (0, 0))) := ⟨_, rfl, ((Below.refl _ _).alloc (Nat.le_refl _) _), by simp, by show _ = _; simp, (by show _ = _; exact alloc_nth1_0 W3 _)⟩
        have z4 : W3.heap.size ≤ W4.heap.size := b4.size
        have B4 : Hid (Below w.heap.size w W4) := B3.out.trans (b4.mono B3.out.size)
        have r_made4 : Hid (W4.heap[w.heap.size]? = some (.cells #[.int .i64 (m : Int), .slice ao_v L_v cap_v] 67 (0, 0))) := rowKeep r_made3.out b4
        have o_v4 : Hid (Own W4 (W1.heap.size) (W2.heap.size) 9 (.slice ao_v L_v cap_v) (ss (Ed.edge (T.take m)))) := Own.later o_v3.out b4 (by omega)
        have o_t4 : Hid (Own W4 (W2.heap.size) (W3.heap.size) 9 (.slice ao_t L_t cap_t) (ss x)) := Own.later o_t3.out b4 (by omega)
        have c_made4_0 : W4.cell? ⟨w.heap.size, 0, none⟩ = some (.int .i64 (m : Int)) := row_at r_made4.out 0
        have c_made4_1 : W4.cell? ⟨w.heap.size, 1, none⟩ = some (.slice ao_v L_v cap_v) := row_at r_made4.out 1
        have c_h4_0 : W4.cell? ⟨W3.heap.size, 0, none⟩ = some (.int .i64 h.n) := row_at r_h4.out 0
        have c_h4_1 : W4.cell? ⟨W3.heap.size, 1, none⟩ = some (.string h.r) := row_at r_h4.out 1
        clear r_made3 c_made3_0 c_made3_1 o_v3 o_t3
        have hmT : (m : Int) ≤ (T.length : Int) := by omega
        by_cases hcm : cap1 = m
        · cases ok
          · have HO : Hid (R = false) := by show _ = _; rw [← HF.out.2]; exact fin_no hlt HF.out.1 (by rw [HGC.out])
            go_wp2
            go_ret
            exact ⟨by rw [HO.out]; rfl, (by rw [HW4.out]; exact B4.out)⟩
          · obtain ⟨q, rfl, hq1, hq2, hx1, _⟩ := getC_some HBY.out HGC.out
            have hgt : T.length - m < x.length := by omega
            have dt : decide ((0 : Int) < (L_t : Int)) = true := decide_eq_true (by omega)
            have HO : Hid (R = false) := by show _ = _; rw [← HF.out.2]; exact fin_far hlt HF.out.1 (by rw [HGC.out]; exact far_len hm hgt)
            go_wp2
            go_ret
            exact ⟨by rw [HO.out]; rfl, (by rw [HW4.out]; exact B4.out)⟩
        · obtain ⟨d, hd0⟩ : ∃ d, T.length - m = d := ⟨_, rfl⟩
          have hdm : d + m = T.length ∧ d ≤ T.length := by omega
          cases ok
          · have HO : Hid (R = false) := by show _ = _; rw [← HF.out.2]; exact fin_no hlt HF.out.1 (by rw [HGC.out])
            go_wp2
            go_ret
            exact ⟨by rw [HO.out]; rfl, (by rw [HW4.out]; exact B4.out)⟩
          · obtain ⟨q, rfl, hq1, hq2, hx1, _⟩ := getC_some HBY.out HGC.out
            by_cases hgt : T.length - m < x.length
            · have dt : decide ((d : Int) < (L_t : Int)) = true := decide_eq_true (by omega)
              have HO : Hid (R = false) := by show _ = _; rw [← HF.out.2]; exact fin_far hlt HF.out.1 (by rw [HGC.out]; exact far_len hm hgt)
              go_wp2
              go_ret
              exact ⟨by rw [HO.out]; rfl, (by rw [HW4.out]; exact B4.out)⟩
            · have dt : decide ((d : Int) < (L_t : Int)) = false := decide_eq_false (by omega)
              have dl : (L_t : Int) ≤ (cap1 : Int) - (m : Int) := by omega
              have dl2 : L_t ≤ cap1 - m := by omega
              have dl3 : (L_t : Int) ≤ ((cap1 - m : Nat) : Int) := by omega
              have hLx : L_t = x.length := by omega
              have HR2 : Hid (∀ W, Below w.heap.size w W → Sl W (.slice (some ⟨bT, offT + m, none⟩) L_t (cap1 - m)) (ss ((T.drop m).take x.length))) := by
                intro W hW
                have s1 := slBack (HT.out.later hW) m (by rw [ss_len]; omega)
                have s2 := Sl.front s1 L_t (by rw [List.length_drop, ss_len]; omega)
                have e : ss ((T.drop m).take x.length) = ((ss T).drop m).take L_t := by unfold ss; rw [List.map_take, List.map_drop, hLx]
                rw [e]
                exact s2
              clear hLx
              obtain ⟨t, hte⟩ : ∃ t : Bool, t = true ↔ x = (T.drop m).take x.length := ⟨decide (x = (T.drop m).take x.length), by simp⟩
              have HTE : Hid (t = true ↔ x = (T.drop m).take x.length) := hte
              clear hte
              go_wp2_with fail
              rw [HW4.out]
              clear a_made3_0 a_made3_1
              refine (Cl.same_impl W4 _ _ x ((T.drop m).take x.length) t HTE.out o_t4.out.sl (HR2.out _ B4.out) (by omega) (by rw [List.length_take]; omega)).mono ?_
              rintro e W5 ⟨rfl, h5, _⟩
              have b5 : Below W4.heap.size W4 W5 := h5 _
              clear h5
              have z5 : W4.heap.size ≤ W5.heap.size := b5.size
              have B5 : Hid (Below w.heap.size w W5) := B4.out.trans (b5.mono B4.out.size)
              have r_made5 : Hid (W5.heap[w.heap.size]? = some (.cells #[.int .i64 (m : Int), .slice ao_v L_v cap_v] 67 (0, 0))) := rowKeep r_made4.out b5
              have r_h5 : Hid (W5.heap[W3.heap.size]? = some (.cells #[.int .i64 h.n, .string h.r] 24 (0, 0))) := rowKeep r_h4.out b5
              have o_v5 : Hid (Own W5 (W1.heap.size) (W2.heap.size) 9 (.slice ao_v L_v cap_v) (ss (Ed.edge (T.take m)))) := Own.later o_v4.out b5 (by omega)
              have o_t5 : Hid (Own W5 (W2.heap.size) (W3.heap.size) 9 (.slice ao_t L_t cap_t) (ss x)) := Own.later o_t4.out b5 (by omega)
              have c_made5_0 : W5.cell? ⟨w.heap.size, 0, none⟩ = some (.int .i64 (m : Int)) := row_at r_made5.out 0
              have c_made5_1 : W5.cell? ⟨w.heap.size, 1, none⟩ = some (.slice ao_v L_v cap_v) := row_at r_made5.out 1
              have c_h5_0 : W5.cell? ⟨W3.heap.size, 0, none⟩ = some (.int .i64 h.n) := row_at r_h5.out 0
              have c_h5_1 : W5.cell? ⟨W3.heap.size, 1, none⟩ = some (.string h.r) := row_at r_h5.out 1
              clear r_made4 c_made4_0 c_made4_1 r_h4 c_h4_0 c_h4_1 o_v4 o_t4
              cases t
              · have HO : Hid (R = false) := by
                  show _ = _
                  rw [← HF.out.2]
                  refine fin_far hlt HF.out.1 ?_
                  rw [HGC.out]
                  show ¬ (T.take m ++ x) <+: T
                  intro h9
                  have h8 := (pre_eq (by rw [List.length_drop]; omega)).2 ((pre_take hm).1 h9)
                  exact absurd (HTE.out.2 h8) (by simp)
                go_wp2
                go_ret
                exact ⟨by rw [HO.out]; rfl, B5.out⟩
              · have hpre : x <+: T.drop m := (pre_eq (by rw [List.length_drop]; omega)).1 (HTE.out.1 rfl)
                obtain ⟨e5, e6⟩ := take_more hm hpre
                have e7 := allE_take h2 hm hpre
                have e8 := headOf_edge h2 e6
                obtain ⟨m2, hm2⟩ : ∃ m2, m + x.length = m2 := ⟨_, rfl⟩
                rw [hm2] at e5 e6 e7 e8
                obtain ⟨D, hD⟩ : ∃ D, Ed.rootE (m2 : Int) (Ed.edge (T.take m2)) = D := ⟨_, rfl⟩
                have edl : ∀ k, (Ed.edge (T.take k)).length ≤ 1000000 := fun k => by
                  rw [Ed.edge_len]
                  have h9 : (T.take k).length < 256 := by rw [List.length_take]; omega
                  have := Ed.popc_le ⟨(T.take k).length, h9⟩
                  simp only at this
                  omega
                have qa : ∀ W v1 v2, Glob W → Sl W v1 (ss (Ed.edge (T.take m))) → Sl W v2 (ss x) → _ := fun W v1 v2 g1 h1 h3 => Ed.all_impl W (m : Int) v1 v2 (Ed.edge (T.take m)) x g1 h1 h3 (by have := edl m; omega) (fun s hs => by have := Ed.edge_sizes _ s hs; omega) (by omega) (fun s hs => by have := HXZ.out s hs; omega)
                simp only [e7] at qa
                have qr : ∀ W v1, Glob W → Sl W v1 (ss (Ed.edge (T.take m2))) → _ := fun W v1 g1 h1 => Ed.rootE_impl W (m2 : Int) v1 (Ed.edge (T.take m2)) g1 h1 (by have := edl m2; omega) (fun s hs => by have := Ed.edge_sizes _ s hs; omega)
                simp only [hD] at qr
                rw [hD] at e8
                have HH : Hid (headOf (T.take m ++ x) = ⟨(m2 : Int), D⟩) := by show _ = _; rw [e5]; exact e8
                have HE5 : Hid (T.take m ++ x = T.take m2) := e5
                have hm2T : m2 ≤ T.length := e6
                obtain ⟨E, hE⟩ : ∃ E, eqH h ⟨(m2 : Int), D⟩ = E := ⟨_, rfl⟩
                have e1 : ∀ W, (binOp .neq 24 (.agg #[.int .i64 h.n, .string h.r]) (.agg #[.int .i64 (m2 : Int), .string D])).run Tryd.prog W = .ok (.bool (!E)) W := fun W => by have h9 := neqH W h ⟨(m2 : Int), D⟩; rw [hE] at h9; exact h9
                have e2 : ∀ W op y z xs ys, _ := fun W op y z xs ys => grdH W op y z xs ys
                have HE : Hid (eqH h ⟨(m2 : Int), D⟩ = E) := hE
                clear hE hD e5 e6 e7 e8 edl hpre hm2 HTE HR2
                go_wp2_with fail
                refine (qa W5 _ _ (HG.out.later B5.out) o_v5.out.sl o_t5.out.sl).mono ?_
                rintro e W6 ⟨v_e, rfl, o_e6, b6⟩
                obtain ⟨ao_e, L_e, cap_e, rfl, hL_e, hM_e⟩ := o_e6.form
                have o_e6 : Hid (Own W6 W5.heap.size W6.heap.size 9 (.slice ao_e L_e cap_e) (ss (Ed.edge (T.take m2)))) := o_e6
                clear hL_e hM_e
                have z6 : W5.heap.size ≤ W6.heap.size := b6.size
                have B6 : Hid (Below w.heap.size w W6) := B5.out.trans (b6.mono B5.out.size)
                have r_made6 : Hid (W6.heap[w.heap.size]? = some (.cells #[.int .i64 (m : Int), .slice ao_v L_v cap_v] 67 (0, 0))) := rowKeep r_made5.out b6
                have r_h6 : Hid (W6.heap[W3.heap.size]? = some (.cells #[.int .i64 h.n, .string h.r] 24 (0, 0))) := rowKeep r_h5.out b6
                have o_v6 : Hid (Own W6 (W1.heap.size) (W2.heap.size) 9 (.slice ao_v L_v cap_v) (ss (Ed.edge (T.take m)))) := Own.later o_v5.out b6 (by omega)
                have o_t6 : Hid (Own W6 (W2.heap.size) (W3.heap.size) 9 (.slice ao_t L_t cap_t) (ss x)) := Own.later o_t5.out b6 (by omega)
                have c_made6_0 : W6.cell? ⟨w.heap.size, 0, none⟩ = some (.int .i64 (m : Int)) := row_at r_made6.out 0
                have c_made6_1 : W6.cell? ⟨w.heap.size, 1, none⟩ = some (.slice ao_v L_v cap_v) := row_at r_made6.out 1
                have c_h6_0 : W6.cell? ⟨W3.heap.size, 0, none⟩ = some (.int .i64 h.n) := row_at r_h6.out 0
                have c_h6_1 : W6.cell? ⟨W3.heap.size, 1, none⟩ = some (.string h.r) := row_at r_h6.out 1
                clear r_made5 c_made5_0 c_made5_1 r_h5 c_h5_0 c_h5_1 o_v5 o_t5
                clear o_v6
                go_wp2_with (refine wpl_partG rfl 67 _ _ rfl (w.heap.size) 0 (Ed.ee (m2 : Int) (.slice ao_e L_e cap_e)) rfl rfl [.int .i64 (m : Int), .slice ao_v L_v cap_v] 67 r_made6.out (Nat.le_of_ble_eq_true rfl) (Ed.sizeEd _ _) (Ed.oneEd _ rfl) [.int .i64 (m2 : Int), .slice ao_e L_e cap_e] rfl ?_)
                intro W7 r_made7 g7
                have r_made7 : Hid (W7.heap[w.heap.size]? = some (.cells #[.int .i64 (m2 : Int), .slice ao_e L_e cap_e] 67 (0, 0))) := r_made7
                have z7 : W6.heap.size ≤ W7.heap.size := g7.size
                have B7 : Hid (Below w.heap.size w W7) := belowGro B6.out g7 B6.out.size (fun k9 h9 => by injection h9 with h9; have := B6.out.size; omega)
                have r_h7 : Hid (W7.heap[W3.heap.size]? = some (.cells #[.int .i64 h.n, .string h.r] 24 (0, 0))) := rowGro r_h6.out g7 (fun h9 => by injection h9 with h9; omega)
                have o_t7 : Hid (Own W7 (W2.heap.size) (W3.heap.size) 9 (.slice ao_t L_t cap_t) (ss x)) := Own.gro o_t6.out g7 (fun k9 h9 e9 => Own.neRow o_t6.out r_made6.out (by decide) (h9.trans e9.symm))
                have o_e7 : Hid (Own W7 (W5.heap.size) (W6.heap.size) 9 (.slice ao_e L_e cap_e) (ss (Ed.edge (T.take m2)))) := Own.gro o_e6.out g7 (fun k9 h9 e9 => Own.neRow o_e6.out r_made6.out (by decide) (h9.trans e9.symm))
                have c_made7_0 : W7.cell? ⟨w.heap.size, 0, none⟩ = some (.int .i64 (m2 : Int)) := row_at r_made7.out 0
                have c_made7_1 : W7.cell? ⟨w.heap.size, 1, none⟩ = some (.slice ao_e L_e cap_e) := row_at r_made7.out 1
                have c_h7_0 : W7.cell? ⟨W3.heap.size, 0, none⟩ = some (.int .i64 h.n) := row_at r_h7.out 0
                have c_h7_1 : W7.cell? ⟨W3.heap.size, 1, none⟩ = some (.string h.r) := row_at r_h7.out 1
                clear r_h6 c_h6_0 c_h6_1 o_t6 o_e6
                clear r_made6 c_made6_0 c_made6_1
                clear g7
                go_wp2_with fail
                refine wp_region_held_drew (S := fun w' => w'.cell? ⟨W3.heap.size, 0, none⟩ = some (.int .i64 h.n) ∧ w'.cell? ⟨W3.heap.size, 1, none⟩ = some (.string h.r) ∧ w'.cell? ⟨w.heap.size, 0, none⟩ = some (.int .i64 (m2 : Int)) ∧ w'.cell? ⟨w.heap.size, 1, none⟩ = some (.slice ao_e L_e cap_e)) (by kernel_rfl) ⟨c_h7_0, c_h7_1, c_made7_0, c_made7_1⟩ (fun hHeld => ?_)
                (refine wpAnyH_take (i := 0) (v := ?v0x9) rfl (by kernel_rfl) (by kernel_rfl) (by kernel_rfl) (fun _ _ _ h => h) (Or.inl ⟨by rfl, ?hy0x9⟩) (by assumption) ?rest0x9; case hy0x9 => (intro w hSw; (try dsimp only at hSw); go_split_ands; go_simp; (try with_reducible rfl)))
                try simp only [Act.put, List.setIfInBounds_toArray, List.set_cons_zero, List.set_cons_succ, List.getElem_toArray, List.getElem_cons_zero, List.getElem_cons_succ]
                (refine wpAnyH_take (i := 1) (v := ?v1x10) rfl (by kernel_rfl) (by kernel_rfl) (by kernel_rfl) (fun _ _ _ h => h) (Or.inl ⟨by rfl, ?hy1x10⟩) (by assumption) ?rest1x10; case hy1x10 => (intro w hSw; (try dsimp only at hSw); go_split_ands; go_simp; (try with_reducible rfl)))
                try simp only [Act.put, List.setIfInBounds_toArray, List.set_cons_zero, List.set_cons_succ, List.getElem_toArray, List.getElem_cons_zero, List.getElem_cons_succ]
                (refine wpAnyH_take (i := 2) (v := ?v2x11) rfl (by kernel_rfl) (by kernel_rfl) (by kernel_rfl) (fun _ _ _ h => h) (Or.inl ⟨by rfl, ?hy2x11⟩) (by assumption) ?rest2x11; case hy2x11 => (intro w hSw; (try dsimp only at hSw); go_split_ands; go_simp; (try with_reducible rfl)))
                try simp only [Act.put, List.setIfInBounds_toArray, List.set_cons_zero, List.set_cons_succ, List.getElem_toArray, List.getElem_cons_zero, List.getElem_cons_succ]
                (refine wpAnyH_take (i := 3) (v := ?v3x12) rfl (by kernel_rfl) (by kernel_rfl) (by kernel_rfl) (fun _ _ _ h => h) (Or.inl ⟨by rfl, ?hy3x12⟩) (by assumption) ?rest3x12; case hy3x12 => (intro w hSw; (try dsimp only at hSw); go_split_ands; go_simp; (try with_reducible rfl)))
                try simp only [Act.put, List.setIfInBounds_toArray, List.set_cons_zero, List.set_cons_succ, List.getElem_toArray, List.getElem_cons_zero, List.getElem_cons_succ]
                refine wpAnyH_ready (rs := [4]) (by kernel_rfl) (by simp) ?_
                refine AllReadyH.cons rfl (fun K hK => ?_) AllReadyH.nil
                go_simp
                refine (qr W7.drew _ (HG.out.later (Below.drew B7.out)) (Own.sl (w := W7) o_e7.out)).mono ?_
                rintro e W8 ⟨rfl, b8⟩
                have b8 : Below W7.heap.size W7 W8 := (Below.drew (Below.refl _ _)).trans b8
                refine hK.out _ _ ⟨(keepR (W := W7) hHeld.1 b8), (keepR (W := W7) hHeld.2.1 b8), (keepR (W := W7) hHeld.2.2.1 b8), (keepR (W := W7) hHeld.2.2.2 b8)⟩ (fun hHeld => ?_)
                clear hK K
                try simp only [Act.put, List.setIfInBounds_toArray, List.set_cons_zero, List.set_cons_succ, List.getElem_toArray, List.getElem_cons_zero, List.getElem_cons_succ]
                have z8 : W7.heap.size ≤ W8.heap.size := b8.size
                have B8 : Hid (Below w.heap.size w W8) := B7.out.trans (b8.mono B7.out.size)
                have r_made8 : Hid (W8.heap[w.heap.size]? = some (.cells #[.int .i64 (m2 : Int), .slice ao_e L_e cap_e] 67 (0, 0))) := rowKeep r_made7.out b8
                have r_h8 : Hid (W8.heap[W3.heap.size]? = some (.cells #[.int .i64 h.n, .string h.r] 24 (0, 0))) := rowKeep r_h7.out b8
                have o_t8 : Hid (Own W8 (W2.heap.size) (W3.heap.size) 9 (.slice ao_t L_t cap_t) (ss x)) := Own.later o_t7.out b8 (by omega)
                have o_e8 : Hid (Own W8 (W5.heap.size) (W6.heap.size) 9 (.slice ao_e L_e cap_e) (ss (Ed.edge (T.take m2)))) := Own.later o_e7.out b8 (by omega)
                have c_made8_0 : W8.cell? ⟨w.heap.size, 0, none⟩ = some (.int .i64 (m2 : Int)) := row_at r_made8.out 0
                have c_made8_1 : W8.cell? ⟨w.heap.size, 1, none⟩ = some (.slice ao_e L_e cap_e) := row_at r_made8.out 1
                have c_h8_0 : W8.cell? ⟨W3.heap.size, 0, none⟩ = some (.int .i64 h.n) := row_at r_h8.out 0
                have c_h8_1 : W8.cell? ⟨W3.heap.size, 1, none⟩ = some (.string h.r) := row_at r_h8.out 1
                clear r_made7 c_made7_0 c_made7_1 r_h7 c_h7_0 c_h7_1 o_t7 o_e7
                (refine wpAnyH_take (i := 5) (v := ?v5x13) rfl (by kernel_rfl) (by kernel_rfl) (by kernel_rfl) (fun _ _ _ h => h) (Or.inl ⟨by rfl, ?hy5x13⟩) (by assumption) ?rest5x13; case hy5x13 => (intro w hSw; (try dsimp only at hSw); go_split_ands; go_simp; (try with_reducible rfl)))
                try simp only [Act.put, List.setIfInBounds_toArray, List.set_cons_zero, List.set_cons_succ, List.getElem_toArray, List.getElem_cons_zero, List.getElem_cons_succ]
                (refine wpAnyH_take (i := 6) (v := ?v6x14) rfl (by kernel_rfl) (by kernel_rfl) (by kernel_rfl) (fun _ _ _ h => h) (Or.inl ⟨by rfl, ?hy6x14⟩) (by assumption) ?rest6x14; case hy6x14 => (intro w hSw; (try dsimp only at hSw); go_split_ands; go_simp; (try with_reducible rfl)))
                try simp only [Act.put, List.setIfInBounds_toArray, List.set_cons_zero, List.set_cons_succ, List.getElem_toArray, List.getElem_cons_zero, List.getElem_cons_succ]
                refine wpAnyH_done (by kernel_rfl) ?_ _
                clear hHeld
                cases E
                · have HO : Hid (R = false) := by show _ = _; rw [← HF.out.2]; exact fin_head hlt HF.out.1 (by rw [HGC.out, HH.out]; exact HE.out)
                  go_wp2
                  go_ret
                  exact ⟨by rw [HO.out]; rfl, B8.out⟩
                · obtain ⟨f', hf1, hf2⟩ := fin_go (T := T) (l := T.take m) (hd := hd) hlt HF.out.1 HGC.out hq1 (by rw [HE5.out, List.length_take]; omega) (by rw [HH.out]; exact HE.out)
                  have HF9 : Hid (xs.length - q ≤ f' ∧ fin12 xs T f' q (T.take m2) h = R) := ⟨hf1, by rw [← HE5.out, ← hf2]; exact HF.out.2⟩
                  clear hf1 hf2
                  go_wp2
                  go_roundw
                  case rel => exact ⟨q, m2, f', h, ao_e, L_e, cap_e, hq2, hm2T, rfl, HF9, r_made8, Own.mono o_e8.out (by omega) (by omega), B8, by omega⟩
                  case measure => simp [intOf]; omega
      · have hlt2 : ¬ (a : Int) < (xs.length : Int) := by omega
        have HO : Hid (R = ((m : Int) == (T.length : Int))) := by
          show _ = _
          rw [← HF.out.2, fin_end hlt]
          by_cases h9 : m = T.length
          · have h8 : T.take m = T := List.take_of_length_le (by omega)
            have h7 : (m : Int) = (T.length : Int) := by omega
            simp [h8, h7]
          · have h8 : ¬ T.take m = T := fun e9 => by have := congrArg List.length e9; rw [List.length_take] at this; omega
            have h7 : ¬ (m : Int) = (T.length : Int) := by omega
            simp [h8, h7]
        go_wp2
        go_ret
        exact ⟨by rw [HO.out]; rfl, B2.out⟩
  · have qg : ∀ W, Below w.heap.size w W → ∀ a : Nat, a ≤ xs.length → _ := fun W hW a ha => getc_land W _ xs (a : Int) (HG.out.later hW) (HN.out.later hW) (HS.out.later hW) HBY.out hx (by omega) (by omega)
    go_enter Tryd.func31, Tryd.ntmps31
    go_wp2_with fail
    rw [HW1.out]
    go_loopw [6] (fun iv wr => ∃ (a m f : Nat) (hd : Hd) (ao : Option Addr) (L cap : Nat), a ≤ xs.length ∧ m ≤ T.length ∧ iv = .int .i64 (a : Int) ∧ Hid (xs.length - a ≤ f ∧ fin12 xs T f a (T.take m) hd = R) ∧ Hid (wr.heap[w.heap.size]? = some (.cells #[.int .i64 (m : Int), .slice ao L cap] 67 (0, 0))) ∧ Hid (Own wr W1.heap.size wr.heap.size 9 (.slice ao L cap) (ss (Ed.edge (T.take m)))) ∧ Hid (Below w.heap.size w wr) ∧ W1.heap.size ≤ wr.heap.size) (fun iv _ => xs.length - (intOf iv).toNat)
    case atStart => exact ⟨0, 0, xs.length, headOf [], none, 0, 0, Nat.zero_le _, Nat.zero_le _, rfl, HF0, r_made1, by show Own _ _ _ _ _ _; rw [List.take_zero, Ed.edge_nil]; exact ownNil _ _ _ _, B1, Nat.le_refl _⟩
    case round =>
      obtain ⟨a, m, f, hd, ao_v, L_v, cap_v, ha, hm, rfl, HF, r_made2, o_v2, B2, z2⟩ := hrel
      obtain ⟨W2, hW2⟩ : ∃ X, X = wr := ⟨_, rfl⟩
      subst hW2
      clear HF0 r_made1 c_made1_0 c_made1_1
      have c_made2_0 : W2.cell? ⟨w.heap.size, 0, none⟩ = some (.int .i64 (m : Int)) := row_at r_made2.out 0
      have c_made2_1 : W2.cell? ⟨w.heap.size, 1, none⟩ = some (.slice ao_v L_v cap_v) := row_at r_made2.out 1
      by_cases hlt : a < xs.length
      · have hlt2 : (a : Int) < (xs.length : Int) := by omega
        have q2 := qg W2 B2.out a ha
        obtain ⟨h, x, p, ok, hg⟩ : ∃ h x p ok, getC xs (a : Int) = (h, x, p, ok) := ⟨_, _, _, _, rfl⟩
        unfold GotC at q2
        rw [hg] at q2
        simp only at q2
        have hx2 : x.length ≤ 200 := by
          have h9 := getC_len xs (a : Int)
          rw [hg] at h9
          exact h9
        have HGC : Hid (getC xs (a : Int) = (h, x, p, ok)) := hg
        have HXZ : Hid (∀ s ∈ x, s.size ≤ 1000000000) := getC_size HBY.out hg
        clear hg
        go_wp2_with fail
        refine (q2).mono ?_
        rintro e W3 ⟨v_t, rfl, o_t3, b3⟩
        obtain ⟨ao_t, L_t, cap_t, rfl, hL_t, hM_t⟩ := o_t3.form
        have o_t3 : Hid (Own W3 W2.heap.size W3.heap.size 9 (.slice ao_t L_t cap_t) (ss x)) := o_t3
        clear hL_t hM_t
        have z3 : W2.heap.size ≤ W3.heap.size := b3.size
        have B3 : Hid (Below w.heap.size w W3) := B2.out.trans (b3.mono B2.out.size)
        have r_made3 : Hid (W3.heap[w.heap.size]? = some (.cells #[.int .i64 (m : Int), .slice ao_v L_v cap_v] 67 (0, 0))) := rowKeep r_made2.out b3
        have o_v3 : Hid (Own W3 (W1.heap.size) (W2.heap.size) 9 (.slice ao_v L_v cap_v) (ss (Ed.edge (T.take m)))) := Own.later o_v2.out b3 (by omega)
        have c_made3_0 : W3.cell? ⟨w.heap.size, 0, none⟩ = some (.int .i64 (m : Int)) := row_at r_made3.out 0
        have c_made3_1 : W3.cell? ⟨w.heap.size, 1, none⟩ = some (.slice ao_v L_v cap_v) := row_at r_made3.out 1
        clear r_made2 c_made2_0 c_made2_1 o_v2
        have hLt : L_t ≤ x.length ∧ x.length ≤ L_t := by obtain ⟨a9, L9, c9, he, h1, h2⟩ := Mem.Own.form o_t3.out; injection he with _ he2 _; rw [ss_len] at h1 h2; omega
        clear q2
        have a_made3_0 : ∀ o, (W3.alloc o).cell? ⟨w.heap.size, 0, none⟩ = some (.int .i64 (m : Int)) := fun o => keepR c_made3_0 ((Below.refl _ _).alloc (Nat.le_refl _) o)
        have a_made3_1 : ∀ o, (W3.alloc o).cell? ⟨w.heap.size, 1, none⟩ = some (.slice ao_v L_v cap_v) := fun o => keepR c_made3_1 ((Below.refl _ _).alloc (Nat.le_refl _) o)
        obtain ⟨W4, HW4, b4, y4, hS4, r_h4⟩ : ∃ X, Hid ((W3.alloc (.cells #[.int .i64 h.n, .string h.r] 24)) = X) ∧ Below W3.heap.size W3 X ∧ W3.heap.size + 1 ≤ X.heap.size ∧ Hid (X.heap.size = W3.heap.size + 1) ∧ Hid (X.heap[W3.heap.size]? = some (.cells #[.int .i64 h.n, .string h.r] 24 (0, 0))) := ⟨_, rfl, ((Below.refl _ _).alloc (Nat.le_refl _) _), by simp, by show _ = _; simp, (by show _ = _; exact alloc_nth1_0 W3 _)⟩
        have z4 : W3.heap.size ≤ W4.heap.size := b4.size
        have B4 : Hid (Below w.heap.size w W4) := B3.out.trans (b4.mono B3.out.size)
        have r_made4 : Hid (W4.heap[w.heap.size]? = some (.cells #[.int .i64 (m : Int), .slice ao_v L_v cap_v] 67 (0, 0))) := rowKeep r_made3.out b4
        have o_v4 : Hid (Own W4 (W1.heap.size) (W2.heap.size) 9 (.slice ao_v L_v cap_v) (ss (Ed.edge (T.take m)))) := Own.later o_v3.out b4 (by omega)
        have o_t4 : Hid (Own W4 (W2.heap.size) (W3.heap.size) 9 (.slice ao_t L_t cap_t) (ss x)) := Own.later o_t3.out b4 (by omega)
        have c_made4_0 : W4.cell? ⟨w.heap.size, 0, none⟩ = some (.int .i64 (m : Int)) := row_at r_made4.out 0
        have c_made4_1 : W4.cell? ⟨w.heap.size, 1, none⟩ = some (.slice ao_v L_v cap_v) := row_at r_made4.out 1
        have c_h4_0 : W4.cell? ⟨W3.heap.size, 0, none⟩ = some (.int .i64 h.n) := row_at r_h4.out 0
        have c_h4_1 : W4.cell? ⟨W3.heap.size, 1, none⟩ = some (.string h.r) := row_at r_h4.out 1
        clear r_made3 c_made3_0 c_made3_1 o_v3 o_t3
        have hmT : (m : Int) ≤ (T.length : Int) := by omega
        obtain rfl : m = 0 := by omega
        rcases ao1 with _ | ad
        · obtain rfl := hn1 rfl
          cases ok
          · have HO : Hid (R = false) := by show _ = _; rw [← HF.out.2]; exact fin_no hlt HF.out.1 (by rw [HGC.out])
            go_wp2
            go_ret
            exact ⟨by rw [HO.out]; rfl, (by rw [HW4.out]; exact B4.out)⟩
          · obtain ⟨q, rfl, hq1, hq2, hx1, _⟩ := getC_some HBY.out HGC.out
            have hgt : T.length - 0 < x.length := by omega
            have dt : decide ((0 : Int) < (L_t : Int)) = true := decide_eq_true (by omega)
            have HO : Hid (R = false) := by show _ = _; rw [← HF.out.2]; exact fin_far hlt HF.out.1 (by rw [HGC.out]; exact far_len hm hgt)
            go_wp2
            go_ret
            exact ⟨by rw [HO.out]; rfl, (by rw [HW4.out]; exact B4.out)⟩
        · by_cases hcm : cap1 = 0
          · subst hcm
            cases ok
            · have HO : Hid (R = false) := by show _ = _; rw [← HF.out.2]; exact fin_no hlt HF.out.1 (by rw [HGC.out])
              go_wp2
              go_ret
              exact ⟨by rw [HO.out]; rfl, (by rw [HW4.out]; exact B4.out)⟩
            · obtain ⟨q, rfl, hq1, hq2, hx1, _⟩ := getC_some HBY.out HGC.out
              have hgt : T.length - 0 < x.length := by omega
              have dt : decide ((0 : Int) < (L_t : Int)) = true := decide_eq_true (by omega)
              have HO : Hid (R = false) := by show _ = _; rw [← HF.out.2]; exact fin_far hlt HF.out.1 (by rw [HGC.out]; exact far_len hm hgt)
              go_wp2
              go_ret
              exact ⟨by rw [HO.out]; rfl, (by rw [HW4.out]; exact B4.out)⟩
          · cases ok
            · have HO : Hid (R = false) := by show _ = _; rw [← HF.out.2]; exact fin_no hlt HF.out.1 (by rw [HGC.out])
              go_wp2
              go_ret
              exact ⟨by rw [HO.out]; rfl, (by rw [HW4.out]; exact B4.out)⟩
            · obtain ⟨q, rfl, hq1, hq2, hx1, _⟩ := getC_some HBY.out HGC.out
              have hgt : T.length - 0 < x.length := by omega
              have dt : decide ((0 : Int) < (L_t : Int)) = true := decide_eq_true (by omega)
              have HO : Hid (R = false) := by show _ = _; rw [← HF.out.2]; exact fin_far hlt HF.out.1 (by rw [HGC.out]; exact far_len hm hgt)
              go_wp2
              go_ret
              exact ⟨by rw [HO.out]; rfl, (by rw [HW4.out]; exact B4.out)⟩
      · have hlt2 : ¬ (a : Int) < (xs.length : Int) := by omega
        have HO : Hid (R = ((m : Int) == (T.length : Int))) := by
          show _ = _
          rw [← HF.out.2, fin_end hlt]
          by_cases h9 : m = T.length
          · have h8 : T.take m = T := List.take_of_length_le (by omega)
            have h7 : (m : Int) = (T.length : Int) := by omega
            simp [h8, h7]
          · have h8 : ¬ T.take m = T := fun e9 => by have := congrArg List.length e9; rw [List.length_take] at this; omega
            have h7 : ¬ (m : Int) = (T.length : Int) := by omega
            simp [h8, h7]
        go_wp2
        go_ret
        exact ⟨by rw [HO.out]; rfl, B2.out⟩

end Go.Proofs.YtfpaichdkddglabDoor.Sr

/- Chapter 10, the landed code: the head of texts. -/
namespace Go.Proofs.YtfpaichdkddglabDoor.He
open Go.RowKit Go.Proofs.YtfpaichdkddglabDoor.Mem Go.Proofs.YtfpaichdkddglabDoor.Laws Go.Proofs.YtfpaichdkddglabDoor.Bytes Go.Proofs.YtfpaichdkddglabDoor.Sha Go.Proofs.YtfpaichdkddglabDoor.Tr
set_option linter.unusedVariables false
set_option linter.unusedSimpArgs false

set_option maxRecDepth 1000000 in
set_option maxHeartbeats 1000000 in
theorem headOf_impl (w : World) (v : Value) (l : List ByteArray) (hG : Glob w) (h : Sl w v (ss l)) (hl : l.length ≤ 1000000000000) (hz : ∀ s ∈ l, s.size ≤ 10000000000) :
    Calls Tryd.prog 43 #[v] w fun e w' => e = .returned (.agg #[.int .i64 (headOf l).n, .string (headOf l).r]) ∧ Below w.heap.size w w' := by
  have HR : Hid ((w.alloc (.cells #[.int .i64 0, .string ⟨#[]⟩] 24)).heap[w.heap.size]? = some (.cells (hc hd0) 24 (0, 0))) := heap_alloc_new w _
  have HB : Hid (Below w.heap.size w (w.alloc (.cells #[.int .i64 0, .string ⟨#[]⟩] 24))) := (Below.refl _ _).alloc (Nat.le_refl _) _
  by_cases h2 : l.length ≤ 200
  · have q := root_impl (w.alloc (.cells #[.int .i64 0, .string ⟨#[]⟩] 24)) v l (hG.later HB.out) (h.later HB.out) (by omega) hz
    rw [show rootOf l = root l from if_pos h2] at q
    obtain ⟨M, hM⟩ : ∃ M, headOf l = M := ⟨_, rfl⟩
    have hM2 : M = ⟨l.length, root l⟩ := by rw [← hM]; unfold headOf; rw [if_pos h2]
    obtain ⟨ao, cap, rfl, hcap, _⟩ := h
    have d2 : ¬ (200 : Int) < (l.length : Int) := by omega
    obtain ⟨x, hx⟩ : ∃ x, root l = x := ⟨_, rfl⟩
    rw [hx] at q hM2
    rw [hM, hM2]
    rw [ss_len] at *
    clear hx hM hM2 hz
    go_enter Tryd.func43, Tryd.ntmps43
    go_wp2_with fail
    refine q.mono ?_
    rintro e w1 ⟨rfl, b1⟩
    have R1 := rowKeep HR.out b1
    have B1 : Below w.heap.size w w1 := HB.out.trans (b1.mono HB.out.size)
    clear q HR b1
    go_wp2_with (refine wpList_store_row rfl 24 _ _ rfl w.heap.size (hc (⟨(l.length : Int), x⟩ : Hd)) rfl rfl 24 _ R1 (sizeH (⟨(l.length : Int), x⟩ : Hd)) rfl (oneH (⟨(l.length : Int), x⟩ : Hd)) ?_)
    exact bodyPost_ret (v := .agg (hc ⟨(l.length : Int), x⟩)) (results_cell_row rfl _ _ w.heap.size 24 _ (0, 0) _ rfl (setRow_heap _ _ _ _ _ (0, 0) R1) Tryd.underlying24 rfl (sizeH _)) rfl ⟨rfl, below_setRow B1 (Nat.le_refl _) _⟩
  · have d2 : (200 : Int) < (l.length : Int) := by omega
    have hM : headOf l = hd0 := by unfold headOf; rw [if_neg h2]
    rw [hM]
    obtain ⟨ao, cap, rfl, hcap, _⟩ := h
    rw [ss_len]
    clear hz hM
    go_enter Tryd.func43, Tryd.ntmps43
    go_wp2_with (refine wpList_store_row rfl 24 _ _ rfl w.heap.size (hc hd0) rfl rfl 24 _ HR.out (sizeH hd0) rfl (oneH hd0) ?_)
    exact bodyPost_ret (v := .agg (hc hd0)) (results_cell_row rfl _ _ w.heap.size 24 _ (0, 0) _ rfl (setRow_heap _ _ _ _ _ (0, 0) HR.out) Tryd.underlying24 rfl (sizeH hd0)) rfl ⟨rfl, below_setRow HB.out (Nat.le_refl _) _⟩

end Go.Proofs.YtfpaichdkddglabDoor.He

/- Chapter 11, the landed code: whether a log is right. -/
namespace Go.Proofs.YtfpaichdkddglabDoor.Lg
open Go.RowKit Go.Proofs.YtfpaichdkddglabDoor.Mem Go.Proofs.YtfpaichdkddglabDoor.Laws Go.Proofs.YtfpaichdkddglabDoor.Bytes Go.Proofs.YtfpaichdkddglabDoor.Sha Go.Proofs.YtfpaichdkddglabDoor.Tr Go.Proofs.YtfpaichdkddglabDoor.He
set_option linter.unusedVariables false
set_option linter.unusedSimpArgs false

theorem Own.none9 (w : World) (lo hi : Nat) : Own w lo hi 9 (.slice none 0 0) (ss []) := ⟨⟨rfl, Or.inl ⟨rfl, rfl⟩⟩, fun g hg => by simp [Value.ownBlock] at hg⟩

set_option maxRecDepth 1000000 in
set_option maxHeartbeats 2000000 in
theorem logok_impl (w : World) (v : Value) (l : List ByteArray) (h : Hd) (hG : Glob w) (hs : Sl w v (ss l)) (hl : l.length ≤ 1000000000000) (hz : ∀ s ∈ l, s.size ≤ 10000000000) :
    Calls Tryd.prog 30 #[.agg #[v, .int .i64 h.n, .string h.r]] w fun e w' => e = .returned (.bool (logOk l h)) ∧ Below w.heap.size w w' := by
  have hs0 := hs
  obtain ⟨ao, cap, rfl, hcap⟩ := hs.form
  rw [ss_len] at *
  obtain ⟨W, hW, r0, HB⟩ : ∃ W, Hid (w.alloc (.cells #[.slice ao l.length cap, .int .i64 h.n, .string h.r] 26) = W) ∧ W.heap[w.heap.size]? = some (.cells (lc (.slice ao l.length cap) h) 26 (0, 0)) ∧ Hid (Below w.heap.size w W) := ⟨_, rfl, heap_alloc_new w _, (Below.refl _ _).alloc (Nat.le_refl _) _⟩
  have c0 : W.cell? ⟨w.heap.size, 0, none⟩ = some (.slice ao l.length cap) := row_at r0 0
  have c1 : W.cell? ⟨w.heap.size, 1, none⟩ = some (.int .i64 h.n) := row_at r0 1
  have c2 : W.cell? ⟨w.heap.size, 2, none⟩ = some (.string h.r) := row_at r0 2
  have q := headOf_impl W.drew _ l (hG.later (Below.drew HB.out)) (hs0.later (Below.drew HB.out)) hl hz
  have e1 : ∀ W', _ := fun W' => eqlH W' h (headOf l)
  have e2 : ∀ W' op x y xs ys, _ := fun W' op x y xs ys => grdH W' op x y xs ys
  have HN : Hid (logOk l h = (decide (l.length ≤ 200) && eqH h (headOf l))) := rfl
  obtain ⟨M, hM⟩ : ∃ M, headOf l = M := ⟨_, rfl⟩
  rw [hM] at q HN
  simp only [hM] at e1
  obtain ⟨B, hB⟩ : ∃ B, eqH h M = B := ⟨_, rfl⟩
  rw [hB] at HN
  simp only [hB] at e1
  obtain ⟨A, hA⟩ : ∃ A, logOk l h = A := ⟨_, rfl⟩
  rw [hA] at HN ⊢
  clear hM hB hA hs hs0 r0 hz hG
  by_cases h2 : l.length ≤ 200
  · have d1 : decide ((l.length : Int) ≤ 200) = true := by simp; omega
    have HN2 : Hid (A = B) := by show _ = _; rw [HN.out]; simp [h2]
    clear HN
    go_enter Tryd.func30, Tryd.ntmps30
    go_wp2_with fail
    rw [hW.out]
    refine wp_region_held_drew (S := fun w' => w'.cell? ⟨w.heap.size, 0, none⟩ = some (.slice ao l.length cap) ∧ w'.cell? ⟨w.heap.size, 1, none⟩ = some (.int .i64 h.n) ∧ w'.cell? ⟨w.heap.size, 2, none⟩ = some (.string h.r)) (by kernel_rfl) ⟨c0, c1, c2⟩ (fun hHeld => ?_)
    (refine wpAnyH_take (i := 0) (v := ?v0x1) rfl (by kernel_rfl) (by kernel_rfl) (by kernel_rfl) (fun _ _ _ h => h) (Or.inl ⟨by rfl, ?hy0x1⟩) (by assumption) ?rest0x1; case hy0x1 => (intro w hSw; (try dsimp only at hSw); go_split_ands; go_simp; (try with_reducible rfl)))
    try simp only [Act.put, List.setIfInBounds_toArray, List.set_cons_zero, List.set_cons_succ, List.getElem_toArray, List.getElem_cons_zero, List.getElem_cons_succ]
    (refine wpAnyH_take (i := 1) (v := ?v1x2) rfl (by kernel_rfl) (by kernel_rfl) (by kernel_rfl) (fun _ _ _ h => h) (Or.inl ⟨by rfl, ?hy1x2⟩) (by assumption) ?rest1x2; case hy1x2 => (intro w hSw; (try dsimp only at hSw); go_split_ands; go_simp; (try with_reducible rfl)))
    try simp only [Act.put, List.setIfInBounds_toArray, List.set_cons_zero, List.set_cons_succ, List.getElem_toArray, List.getElem_cons_zero, List.getElem_cons_succ]
    (refine wpAnyH_take (i := 2) (v := ?v2x3) rfl (by kernel_rfl) (by kernel_rfl) (by kernel_rfl) (fun _ _ _ h => h) (Or.inl ⟨by rfl, ?hy2x3⟩) (by assumption) ?rest2x3; case hy2x3 => (intro w hSw; (try dsimp only at hSw); go_split_ands; go_simp; (try with_reducible rfl)))
    try simp only [Act.put, List.setIfInBounds_toArray, List.set_cons_zero, List.set_cons_succ, List.getElem_toArray, List.getElem_cons_zero, List.getElem_cons_succ]
    (refine wpAnyH_take (i := 3) (v := ?v3x4) rfl (by kernel_rfl) (by kernel_rfl) (by kernel_rfl) (fun _ _ _ h => h) (Or.inl ⟨by rfl, ?hy3x4⟩) (by assumption) ?rest3x4; case hy3x4 => (intro w hSw; (try dsimp only at hSw); go_split_ands; go_simp; (try with_reducible rfl)))
    try simp only [Act.put, List.setIfInBounds_toArray, List.set_cons_zero, List.set_cons_succ, List.getElem_toArray, List.getElem_cons_zero, List.getElem_cons_succ]
    (refine wpAnyH_take (i := 4) (v := ?v4x5) rfl (by kernel_rfl) (by kernel_rfl) (by kernel_rfl) (fun _ _ _ h => h) (Or.inl ⟨by rfl, ?hy4x5⟩) (by assumption) ?rest4x5; case hy4x5 => (intro w hSw; (try dsimp only at hSw); go_split_ands; go_simp; (try with_reducible rfl)))
    try simp only [Act.put, List.setIfInBounds_toArray, List.set_cons_zero, List.set_cons_succ, List.getElem_toArray, List.getElem_cons_zero, List.getElem_cons_succ]
    (refine wpAnyH_take (i := 5) (v := ?v5x6) rfl (by kernel_rfl) (by kernel_rfl) (by kernel_rfl) (fun _ _ _ h => h) (Or.inl ⟨by rfl, ?hy5x6⟩) (by assumption) ?rest5x6; case hy5x6 => (intro w hSw; (try dsimp only at hSw); go_split_ands; go_simp; (try with_reducible rfl)))
    try simp only [Act.put, List.setIfInBounds_toArray, List.set_cons_zero, List.set_cons_succ, List.getElem_toArray, List.getElem_cons_zero, List.getElem_cons_succ]
    (refine wpAnyH_take (i := 6) (v := ?v6x7) rfl (by kernel_rfl) (by kernel_rfl) (by kernel_rfl) (fun _ _ _ h => h) (Or.inl ⟨by rfl, ?hy6x7⟩) (by assumption) ?rest6x7; case hy6x7 => (intro w hSw; (try dsimp only at hSw); go_split_ands; go_simp; (try with_reducible rfl)))
    try simp only [Act.put, List.setIfInBounds_toArray, List.set_cons_zero, List.set_cons_succ, List.getElem_toArray, List.getElem_cons_zero, List.getElem_cons_succ]
    (refine wpAnyH_take (i := 7) (v := ?v7x8) rfl (by kernel_rfl) (by kernel_rfl) (by kernel_rfl) (fun _ _ _ h => h) (Or.inl ⟨by rfl, ?hy7x8⟩) (by assumption) ?rest7x8; case hy7x8 => (intro w hSw; (try dsimp only at hSw); go_split_ands; go_simp; (try with_reducible rfl)))
    try simp only [Act.put, List.setIfInBounds_toArray, List.set_cons_zero, List.set_cons_succ, List.getElem_toArray, List.getElem_cons_zero, List.getElem_cons_succ]
    (refine wpAnyH_take (i := 8) (v := ?v8x9) rfl (by kernel_rfl) (by kernel_rfl) (by kernel_rfl) (fun _ _ _ h => h) (Or.inl ⟨by rfl, ?hy8x9⟩) (by assumption) ?rest8x9; case hy8x9 => (intro w hSw; (try dsimp only at hSw); go_split_ands; go_simp; (try with_reducible rfl)))
    try simp only [Act.put, List.setIfInBounds_toArray, List.set_cons_zero, List.set_cons_succ, List.getElem_toArray, List.getElem_cons_zero, List.getElem_cons_succ]
    refine wpAnyH_ready (rs := [9]) (by kernel_rfl) (by simp) ?_
    refine AllReadyH.cons rfl (fun K hK => ?_) AllReadyH.nil
    go_simp
    refine (q).mono ?_
    rintro e w1 ⟨rfl, b1⟩
    refine hK.out _ _ ?_ (fun hHeld => ?_)
    · exact ⟨keepR (W := W.drew) hHeld.1 b1, keepR (W := W.drew) hHeld.2.1 b1, keepR (W := W.drew) hHeld.2.2 b1⟩
    clear hK K
    try simp only [Act.put, List.setIfInBounds_toArray, List.set_cons_zero, List.set_cons_succ, List.getElem_toArray, List.getElem_cons_zero, List.getElem_cons_succ]
    (refine wpAnyH_take (i := 10) (v := ?v10x10) rfl (by kernel_rfl) (by kernel_rfl) (by kernel_rfl) (fun _ _ _ h => h) (Or.inl ⟨by rfl, ?hy10x10⟩) (by assumption) ?rest10x10; case hy10x10 => (intro w hSw; (try dsimp only at hSw); go_split_ands; go_simp; (try with_reducible rfl)))
    try simp only [Act.put, List.setIfInBounds_toArray, List.set_cons_zero, List.set_cons_succ, List.getElem_toArray, List.getElem_cons_zero, List.getElem_cons_succ]
    (refine wpAnyH_take (i := 11) (v := ?v11x11) rfl (by kernel_rfl) (by kernel_rfl) (by kernel_rfl) (fun _ _ _ h => h) (Or.inl ⟨by rfl, ?hy11x11⟩) (by assumption) ?rest11x11; case hy11x11 => (intro w hSw; (try dsimp only at hSw); go_split_ands; go_simp; (try with_reducible rfl)))
    try simp only [Act.put, List.setIfInBounds_toArray, List.set_cons_zero, List.set_cons_succ, List.getElem_toArray, List.getElem_cons_zero, List.getElem_cons_succ]
    (refine wpAnyH_take (i := 12) (v := ?v12x12) rfl (by kernel_rfl) (by kernel_rfl) (by kernel_rfl) (fun _ _ _ h => h) (Or.inl ⟨by rfl, ?hy12x12⟩) (by assumption) ?rest12x12; case hy12x12 => (intro w hSw; (try dsimp only at hSw); go_split_ands; go_simp; (try with_reducible rfl)))
    try simp only [Act.put, List.setIfInBounds_toArray, List.set_cons_zero, List.set_cons_succ, List.getElem_toArray, List.getElem_cons_zero, List.getElem_cons_succ]
    refine wpAnyH_done (by kernel_rfl) ?_ _
    clear hHeld
    go_wp2
    go_ret
    exact ⟨by rw [HN2.out]; rfl, (Below.drew HB.out).trans (b1.mono HB.out.size)⟩
  · have d1 : decide ((l.length : Int) ≤ 200) = false := by simp; omega
    have HN2 : Hid (A = false) := by show _ = _; rw [HN.out]; simp [h2]
    clear HN q
    go_enter Tryd.func30, Tryd.ntmps30
    go_wp2_with fail
    rw [hW.out]
    refine wp_region_held_drew (S := fun w' => w'.cell? ⟨w.heap.size, 0, none⟩ = some (.slice ao l.length cap) ∧ w'.cell? ⟨w.heap.size, 1, none⟩ = some (.int .i64 h.n) ∧ w'.cell? ⟨w.heap.size, 2, none⟩ = some (.string h.r)) (by kernel_rfl) ⟨c0, c1, c2⟩ (fun hHeld => ?_)
    (refine wpAnyH_take (i := 0) (v := ?v0x13) rfl (by kernel_rfl) (by kernel_rfl) (by kernel_rfl) (fun _ _ _ h => h) (Or.inl ⟨by rfl, ?hy0x13⟩) (by assumption) ?rest0x13; case hy0x13 => (intro w hSw; (try dsimp only at hSw); go_split_ands; go_simp; (try with_reducible rfl)))
    try simp only [Act.put, List.setIfInBounds_toArray, List.set_cons_zero, List.set_cons_succ, List.getElem_toArray, List.getElem_cons_zero, List.getElem_cons_succ]
    (refine wpAnyH_take (i := 1) (v := ?v1x14) rfl (by kernel_rfl) (by kernel_rfl) (by kernel_rfl) (fun _ _ _ h => h) (Or.inl ⟨by rfl, ?hy1x14⟩) (by assumption) ?rest1x14; case hy1x14 => (intro w hSw; (try dsimp only at hSw); go_split_ands; go_simp; (try with_reducible rfl)))
    try simp only [Act.put, List.setIfInBounds_toArray, List.set_cons_zero, List.set_cons_succ, List.getElem_toArray, List.getElem_cons_zero, List.getElem_cons_succ]
    (refine wpAnyH_take (i := 2) (v := ?v2x15) rfl (by kernel_rfl) (by kernel_rfl) (by kernel_rfl) (fun _ _ _ h => h) (Or.inl ⟨by rfl, ?hy2x15⟩) (by assumption) ?rest2x15; case hy2x15 => (intro w hSw; (try dsimp only at hSw); go_split_ands; go_simp; (try with_reducible rfl)))
    try simp only [Act.put, List.setIfInBounds_toArray, List.set_cons_zero, List.set_cons_succ, List.getElem_toArray, List.getElem_cons_zero, List.getElem_cons_succ]
    (refine wpAnyH_take (i := 3) (v := ?v3x16) rfl (by kernel_rfl) (by kernel_rfl) (by kernel_rfl) (fun _ _ _ h => h) (Or.inl ⟨by rfl, ?hy3x16⟩) (by assumption) ?rest3x16; case hy3x16 => (intro w hSw; (try dsimp only at hSw); go_split_ands; go_simp; (try with_reducible rfl)))
    try simp only [Act.put, List.setIfInBounds_toArray, List.set_cons_zero, List.set_cons_succ, List.getElem_toArray, List.getElem_cons_zero, List.getElem_cons_succ]
    (refine wpAnyH_take (i := 4) (v := ?v4x17) rfl (by kernel_rfl) (by kernel_rfl) (by kernel_rfl) (fun _ _ _ h => h) (Or.inl ⟨by rfl, ?hy4x17⟩) (by assumption) ?rest4x17; case hy4x17 => (intro w hSw; (try dsimp only at hSw); go_split_ands; go_simp; (try with_reducible rfl)))
    try simp only [Act.put, List.setIfInBounds_toArray, List.set_cons_zero, List.set_cons_succ, List.getElem_toArray, List.getElem_cons_zero, List.getElem_cons_succ]
    (refine wpAnyH_take (i := 5) (v := undef) rfl (by kernel_rfl) (by kernel_rfl) (by kernel_rfl) (fun _ _ _ h => h) (Or.inr ⟨by rfl, rfl⟩) (by assumption) ?_)
    try simp only [Act.put, List.setIfInBounds_toArray, List.set_cons_zero, List.set_cons_succ, List.getElem_toArray, List.getElem_cons_zero, List.getElem_cons_succ]
    (refine wpAnyH_take (i := 6) (v := undef) rfl (by kernel_rfl) (by kernel_rfl) (by kernel_rfl) (fun _ _ _ h => h) (Or.inr ⟨by rfl, rfl⟩) (by assumption) ?_)
    try simp only [Act.put, List.setIfInBounds_toArray, List.set_cons_zero, List.set_cons_succ, List.getElem_toArray, List.getElem_cons_zero, List.getElem_cons_succ]
    (refine wpAnyH_take (i := 7) (v := undef) rfl (by kernel_rfl) (by kernel_rfl) (by kernel_rfl) (fun _ _ _ h => h) (Or.inr ⟨by rfl, rfl⟩) (by assumption) ?_)
    try simp only [Act.put, List.setIfInBounds_toArray, List.set_cons_zero, List.set_cons_succ, List.getElem_toArray, List.getElem_cons_zero, List.getElem_cons_succ]
    (refine wpAnyH_take (i := 8) (v := undef) rfl (by kernel_rfl) (by kernel_rfl) (by kernel_rfl) (fun _ _ _ h => h) (Or.inr ⟨by rfl, rfl⟩) (by assumption) ?_)
    try simp only [Act.put, List.setIfInBounds_toArray, List.set_cons_zero, List.set_cons_succ, List.getElem_toArray, List.getElem_cons_zero, List.getElem_cons_succ]
    (refine wpAnyH_take (i := 9) (v := undef) rfl (by kernel_rfl) (by kernel_rfl) (by kernel_rfl) (fun _ _ _ h => h) (Or.inr ⟨by rfl, rfl⟩) (by assumption) ?_)
    try simp only [Act.put, List.setIfInBounds_toArray, List.set_cons_zero, List.set_cons_succ, List.getElem_toArray, List.getElem_cons_zero, List.getElem_cons_succ]
    (refine wpAnyH_take (i := 10) (v := undef) rfl (by kernel_rfl) (by kernel_rfl) (by kernel_rfl) (fun _ _ _ h => h) (Or.inr ⟨by rfl, rfl⟩) (by assumption) ?_)
    try simp only [Act.put, List.setIfInBounds_toArray, List.set_cons_zero, List.set_cons_succ, List.getElem_toArray, List.getElem_cons_zero, List.getElem_cons_succ]
    (refine wpAnyH_take (i := 11) (v := ?v11x24) rfl (by kernel_rfl) (by kernel_rfl) (by kernel_rfl) (fun _ _ _ h => h) (Or.inl ⟨by rfl, ?hy11x24⟩) (by assumption) ?rest11x24; case hy11x24 => (intro w hSw; (try dsimp only at hSw); go_split_ands; go_simp; (try with_reducible rfl)))
    try simp only [Act.put, List.setIfInBounds_toArray, List.set_cons_zero, List.set_cons_succ, List.getElem_toArray, List.getElem_cons_zero, List.getElem_cons_succ]
    (refine wpAnyH_take (i := 12) (v := ?v12x25) rfl (by kernel_rfl) (by kernel_rfl) (by kernel_rfl) (fun _ _ _ h => h) (Or.inl ⟨by rfl, ?hy12x25⟩) (by assumption) ?rest12x25; case hy12x25 => (intro w hSw; (try dsimp only at hSw); go_split_ands; go_simp; (try with_reducible rfl)))
    try simp only [Act.put, List.setIfInBounds_toArray, List.set_cons_zero, List.set_cons_succ, List.getElem_toArray, List.getElem_cons_zero, List.getElem_cons_succ]
    refine wpAnyH_done (by kernel_rfl) ?_ _
    clear hHeld
    go_wp2
    go_ret
    exact ⟨by rw [HN2.out]; rfl, Below.drew HB.out⟩


end Go.Proofs.YtfpaichdkddglabDoor.Lg
