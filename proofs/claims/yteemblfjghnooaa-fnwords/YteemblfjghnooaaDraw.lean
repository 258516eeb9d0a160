/- Contracts of the specification's draws: what is drawn is some number within its bounds, some bytes, some texts of a list; the cursor alone is written. -/
import Derived.Test.YteemblfjghnooaaBytes
import Derived.Test.YteemblfjghnooaaLaws
import Derived.Deep.RegionWith
namespace Go.Proofs.Yteemblfjghnooaa.Draw
open Go.RowKit Go.Proofs.Yteemblfjghnooaa.Mem Go.Proofs.Yteemblfjghnooaa.Laws Go.Proofs.Yteemblfjghnooaa.Bytes
set_option linter.unusedVariables false

/-- A cursor at block g over the bytes that vb reads. -/
def Cur (w : World) (g : Nat) (vb : Value) (n : Nat) : Prop :=
  ∃ (i : Nat) (h : Int), w.heap[g]? = some (.cells #[vb, .int .i64 (i : Int), .int .i64 h] 78 (0, 0)) ∧ i ≤ n

theorem Apart.put {a w : World} {g : Nat} (h : Apart g (g + 1) a w) (j : Nat) (u : Value) : Apart g (g + 1) a (w.setCell ⟨g, j, none⟩ u) :=
  Apart.setCell (p := ⟨g, j, none⟩) h (Nat.le_refl g) (Nat.lt_succ_self g) u

theorem info9 : (Try.prog.info? 9).map (fun i => (i.zero, i.size, i.bytes)) = some (some (.string ⟨#[]⟩), 1, 16) := by kernel_rfl

theorem and255 (x : Int) : 0 ≤ bits .and .i64 x 255 ∧ bits .and .i64 x 255 ≤ 255 := by
  have h : ∀ a : BitVec 64, (a &&& (255#64)).toNat ≤ 255 := fun a => by rw [BitVec.toNat_and]; exact Nat.and_le_right
  have e : bits .and .i64 x 255 = IntKind.i64.wrap ((BitVec.ofInt 64 x &&& 255#64).toNat : Int) := rfl
  rw [e]
  have hb := h (BitVec.ofInt 64 x)
  rw [IntKind.wrap_i64]
  omega

set_option maxRecDepth 1000000 in
set_option maxHeartbeats 1000000 in
theorem byte_any (W0 w : World) (g : Nat) (vb : Value) (xs : List Int) (hs : Sl W0 vb (bs xs)) (hby : Byt xs) (hx : xs.length ≤ 140737488355328) (hB : Below W0.heap.size W0 w) (hg : W0.heap.size ≤ g) (hc : Cur w g vb xs.length) :
    Calls Try.prog 60 #[.pointer (some ⟨g, 0, none⟩)] w fun e w' => ∃ x : Int, e = .returned (.int .i64 x) ∧ 0 ≤ x ∧ x ≤ 255 ∧ Cur w' g vb xs.length ∧ Apart g (g + 1) w w' := by
  obtain ⟨i, h, hblk, hi⟩ := hc
  have hs' := hs.later hB
  obtain ⟨ao, cap, rfl, hcp, _, hr⟩ := hs'
  have c0 := cell_of_row w g 0 _ _ _ hblk
  have c1 := cell_of_row w g 1 _ _ _ hblk
  have c2 := cell_of_row w g 2 _ _ _ hblk
  have f1 := frozen_of_row w g 1 _ _ hblk
  have f2 := frozen_of_row w g 2 _ _ hblk
  rw [bs_len] at hr hcp c0 hblk
  rw [bs_len]
  simp at c0 c1 c2
  have hset : ∀ (h2 : Int) (k : Nat), (w.setCell ⟨g, 2, none⟩ (.int .i64 h2)).heap[g]? = some (.cells #[.slice ao xs.length cap, .int .i64 (i : Int), .int .i64 h2] 78 (0, 0)) := fun h2 _ => heap_setCell_same w g 2 _ _ _ hblk
  have HS : Hid (∀ (h2 : Int), (w.setCell ⟨g, 2, none⟩ (.int .i64 h2)).heap[g]? = some (.cells #[.slice ao xs.length cap, .int .i64 (i : Int), .int .i64 h2] 78 (0, 0))) := fun h2 => hset h2 0
  clear hset hblk
  by_cases hlt : i < xs.length
  · obtain ⟨b, off, c, rfl, hx0, hcell⟩ := Sl.byteAt hr rfl hlt
    have hcb := hby.at hx0
    have hbl : b < W0.heap.size := by
      obtain ⟨ao', cap', he, _, _, hr'⟩ := hs
      rw [bs_len] at he hr'
      simp only [Value.slice.injEq] at he
      obtain ⟨rfl, _, rfl⟩ := he
      obtain ⟨b', off', c', he', _, hcell'⟩ := Sl.byteAt hr' rfl hlt
      simp only [Option.some.injEq, Addr.mk.injEq, and_true] at he'
      obtain ⟨rfl, rfl⟩ := he'
      exact World.block_lt_of_cell? W0 ⟨b, off + i, none⟩ hcell'
    have hbg : ¬ b = g := by omega
    have hgb : ¬ g = b := by omega
    clear hx0 hr hs hby
    go_enter Try.func60, Try.ntmps60
    go_wp2
    generalize wrap64 (wrap64 (h * 6364136223846793005) + 1442695040888963407) = h2
    go_quiet (fail)
    go_wp2
    go_quiet (fail)
    go_wp2
    go_quiet (fail)
    go_wp2
    go_ret
    have h2b := HS.out h2
    refine ⟨_, rfl, (and255 _).1, (and255 _).2, ⟨i + 1, h2, heap_setCell_same _ g 1 _ _ _ h2b, by omega⟩, ?_⟩
    repeat (first | exact Apart.refl _ _ _ | refine Apart.quiet ?_ _ | refine Apart.put ?_ _ _)
  · clear hr hs hby
    go_enter Try.func60, Try.ntmps60
    go_wp2
    generalize wrap64 (wrap64 (h * 6364136223846793005) + 1442695040888963407) = h2
    go_quiet (fail)
    go_wp2
    go_quiet (fail)
    go_wp2
    go_ret
    have h2b := HS.out h2
    refine ⟨_, rfl, (and255 _).1, (and255 _).2, ⟨i, h2, h2b, hi⟩, ?_⟩
    repeat (first | exact Apart.refl _ _ _ | refine Apart.quiet ?_ _ | refine Apart.put ?_ _ _)

/-- What a draw leaves of the world: the cursor alone may have turned. -/
structure Drawn (W0 w : World) (g : Nat) (vb : Value) (xs : List Int) (w' : World) : Prop where
  cur : Cur w' g vb xs.length
  apart : Apart g (g + 1) w w'
  below : Below W0.heap.size W0 w'

theorem Drawn.mk' {W0 w w' : World} {g : Nat} {vb : Value} {xs : List Int} (hB : Below W0.heap.size W0 w) (hg : W0.heap.size ≤ g) (hc : Cur w' g vb xs.length) (ha : Apart g (g + 1) w w') : Drawn W0 w g vb xs w' :=
  ⟨hc, ha, hB.trans (ha.below hg hB.size)⟩

/-- The cursor, where a new block was laid. -/
theorem Cur.alloc {w : World} {g : Nat} {vb : Value} {n : Nat} (h : Cur w g vb n) (o : Obj) : Cur (w.alloc o) g vb n := by
  obtain ⟨i, x, hb, hi⟩ := h
  exact ⟨i, x, by rw [Below.heap_alloc _ _ _ (Array.getElem?_eq_some_iff.1 hb).1]; exact hb, hi⟩
theorem Cur.later {w w' : World} {g B : Nat} {vb : Value} {n : Nat} (h : Cur w g vb n) (hb : Below B w w') (hg : g < B) : Cur w' g vb n := by
  obtain ⟨i, x, hh, hi⟩ := h
  exact ⟨i, x, by rw [hb.block g hg]; exact hh, hi⟩
theorem Cur.lt {w : World} {g : Nat} {vb : Value} {n : Nat} (h : Cur w g vb n) : g < w.heap.size := by
  obtain ⟨i, x, hh, hi⟩ := h
  exact (Array.getElem?_eq_some_iff.1 hh).1

theorem byte_d (W0 w : World) (g : Nat) (vb : Value) (xs : List Int) (hs : Sl W0 vb (bs xs)) (hby : Byt xs) (hx : xs.length ≤ 140737488355328) (hB : Below W0.heap.size W0 w) (hg : W0.heap.size ≤ g) (hc : Cur w g vb xs.length) :
    Calls Try.prog 60 #[.pointer (some ⟨g, 0, none⟩)] w fun e w' => ∃ x : Int, e = .returned (.int .i64 x) ∧ 0 ≤ x ∧ x ≤ 255 ∧ Drawn W0 w g vb xs w' := by
  refine (byte_any W0 w g vb xs hs hby hx hB hg hc).mono ?_
  rintro e w' ⟨x, rfl, h0, h1, hcur, hap⟩
  exact ⟨x, rfl, h0, h1, Drawn.mk' hB hg hcur hap⟩

set_option maxRecDepth 1000000 in
set_option maxHeartbeats 1000000 in
theorem below_any (W0 w : World) (g : Nat) (vb : Value) (xs : List Int) (n : Int) (hn1 : 1 ≤ n) (hn2 : n ≤ 9223372036854775807) (hs : Sl W0 vb (bs xs)) (hby : Byt xs) (hx : xs.length ≤ 140737488355328) (hB : Below W0.heap.size W0 w) (hg : W0.heap.size ≤ g) (hc : Cur w g vb xs.length) :
    Calls Try.prog 32 #[.pointer (some ⟨g, 0, none⟩), .int .i64 n] w fun e w' => ∃ x : Int, e = .returned (.int .i64 x) ∧ 0 ≤ x ∧ x < n ∧ Drawn W0 w g vb xs w' := by
  by_cases hsm : n ≤ 256
  · go_enter Try.func32, Try.ntmps32
    go_wp2_with fail
    refine (byte_d W0 w g vb xs hs hby hx hB hg hc).mono ?_
    rintro e w1 ⟨x, rfl, h0, h1, hd⟩
    go_wp2
    go_ret
    exact ⟨_, rfl, Int.emod_nonneg _ (by omega), Int.emod_lt_of_pos _ (by omega), hd⟩
  · go_enter Try.func32, Try.ntmps32
    go_wp2_with fail
    refine (byte_d W0 w g vb xs hs hby hx hB hg hc).mono ?_
    rintro e w1 ⟨x, rfl, x0, x1, hd1⟩
    go_wp2_with fail
    refine (byte_d W0 w1 g vb xs hs hby hx hd1.below hg hd1.cur).mono ?_
    rintro e w2 ⟨y, rfl, y0, y1, hd2⟩
    go_wp2_with fail
    refine (byte_d W0 w2 g vb xs hs hby hx hd2.below hg hd2.cur).mono ?_
    rintro e w3 ⟨z, rfl, z0, z1, hd3⟩
    go_wp2
    go_ret
    exact ⟨_, rfl, Int.emod_nonneg _ (by omega), Int.emod_lt_of_pos _ (by omega), ⟨hd3.cur, Apart.trans hd1.apart (Apart.trans hd2.apart hd3.apart), hd3.below⟩⟩

/-- ints as cells -/
def is (xs : List Int) : List Value := xs.map (Value.int .i64)
theorem is_len (xs : List Int) : (is xs).length = xs.length := by simp [is]

set_option maxRecDepth 1000000 in
set_option maxHeartbeats 1000000 in
/-- l1Int: one of the list. The list lies apart from the cursor. -/
theorem int_any (W0 w : World) (g : Nat) (vb : Value) (xs : List Int) (gl : Nat) (li : List Int) (hl : w.heap[gl]? = some (.cells (is li).toArray 3 (0, 0))) (hne : gl ≠ g) (hli : 1 ≤ li.length) (hl2 : li.length ≤ 1000) (hs : Sl W0 vb (bs xs)) (hby : Byt xs) (hx : xs.length ≤ 140737488355328) (hB : Below W0.heap.size W0 w) (hg : W0.heap.size ≤ g) (hc : Cur w g vb xs.length) :
    Calls Try.prog 33 #[.pointer (some ⟨g, 0, none⟩), .slice (some ⟨gl, 0, none⟩) li.length li.length] w fun e w' => ∃ x : Int, e = .returned (.int .i64 x) ∧ x ∈ li ∧ Drawn W0 w g vb xs w' := by
  go_enter Try.func33, Try.ntmps33
  go_wp2_with fail
  refine (below_any W0 w g vb xs li.length (by omega) (by omega) hs hby hx hB hg hc).mono ?_
  rintro e w1 ⟨x, rfl, x0, x1, hd⟩
  obtain ⟨k, rfl⟩ := Int.eq_ofNat_of_zero_le x0
  have hk : k < li.length := by omega
  have hgl : gl < w.heap.size := (Array.getElem?_eq_some_iff.1 hl).1
  obtain ⟨y, hy⟩ : ∃ y, li[k]? = some y := ⟨li[k], by simp⟩
  have hcell : w1.cell? ⟨gl, k, none⟩ = some (.int .i64 y) := by
    rw [cell_of_row w1 gl k _ 3 (0, 0) (by rw [hd.apart.block gl hgl (by omega)]; exact hl)]
    simp [is, hy]
  have HY : Hid (li[k]? = some y) := hy
  clear hy hl
  go_wp2
  go_ret
  exact ⟨_, rfl, List.mem_of_getElem? HY.out, hd⟩

set_option maxRecDepth 1000000 in
set_option maxHeartbeats 1000000 in
/-- l1Str: one of the list. The list lies apart from the cursor. -/
theorem str_any (W0 w : World) (g : Nat) (vb : Value) (xs : List Int) (gl : Nat) (li : List ByteArray) (hl : w.heap[gl]? = some (.cells (ss li).toArray 9 (0, 0))) (hne : gl ≠ g) (hli : 1 ≤ li.length) (hl2 : li.length ≤ 1000) (hs : Sl W0 vb (bs xs)) (hby : Byt xs) (hx : xs.length ≤ 140737488355328) (hB : Below W0.heap.size W0 w) (hg : W0.heap.size ≤ g) (hc : Cur w g vb xs.length) :
    Calls Try.prog 69 #[.pointer (some ⟨g, 0, none⟩), .slice (some ⟨gl, 0, none⟩) li.length li.length] w fun e w' => ∃ x : ByteArray, e = .returned (.string x) ∧ x ∈ li ∧ Drawn W0 w g vb xs w' := by
  go_enter Try.func69, Try.ntmps69
  go_wp2_with fail
  refine (below_any W0 w g vb xs li.length (by omega) (by omega) hs hby hx hB hg hc).mono ?_
  rintro e w1 ⟨x, rfl, x0, x1, hd⟩
  obtain ⟨k, rfl⟩ := Int.eq_ofNat_of_zero_le x0
  have hk : k < li.length := by omega
  have hgl : gl < w.heap.size := (Array.getElem?_eq_some_iff.1 hl).1
  obtain ⟨y, hy⟩ : ∃ y, li[k]? = some y := ⟨li[k], by simp⟩
  have hcell : w1.cell? ⟨gl, k, none⟩ = some (.string y) := by
    rw [cell_of_row w1 gl k _ 9 (0, 0) (by rw [hd.apart.block gl hgl (by omega)]; exact hl)]
    simp [ss, hy]
  have HY : Hid (li[k]? = some y) := hy
  clear hy hl
  go_wp2
  go_ret
  exact ⟨_, rfl, List.mem_of_getElem? HY.out, hd⟩

set_option maxHeartbeats 400000 in
/-- sameTexts of two that read the same: true; no block turns. -/
theorem same_true (w : World) (v1 v2 : Value) (l : List ByteArray) (h1 : Sl w v1 (ss l)) (h2 : Sl w v2 (ss l)) (hx : l.length ≤ 1000000000000) :
    Calls Try.prog 15 #[v1, v2] w fun e w' => e = .returned (.bool true) ∧ (∀ B, Below B w w') ∧ w'.heap.size = w.heap.size := by
  obtain ⟨ao, cap, rfl, hc1, _, hr1⟩ := h1
  obtain ⟨bo, cap2, rfl, hc2, _, hr2⟩ := h2
  rw [ss_len] at hr1 hr2 hc1 hc2
  rw [ss_len]
  go_enter Try.func15, Try.ntmps15
  go_wp2
  go_loopw [5] (fun i wr => ∃ k n : Nat, k ≤ l.length ∧ i = .int .i64 k ∧ wr = w.drewN n) (fun i _ => l.length - (intOf i).toNat)
  case atStart => exact ⟨0, 0, Nat.zero_le _, rfl, rfl⟩
  case round =>
    obtain ⟨k, n, hk, rfl, rfl⟩ := hrel
    by_cases hlt : k < l.length
    · obtain ⟨b, off, s, rfl, hx0, hcell⟩ := Sl.strAt hr1 rfl hlt
      obtain ⟨b2, off2, s2, rfl, hy0, hcell2⟩ := Sl.strAt hr2 rfl hlt
      rw [hx0] at hy0
      simp only [Option.some.injEq] at hy0
      subst hy0
      clear hx0 hr1 hr2
      go_wp2
      go_quiet (fail)
      go_wp2
      go_roundw
      case rel => exact ⟨k + 1, n + nq, by omega, by go_num, rfl⟩
      case measure => simp [intOf]; omega
    · go_wp2
      go_ret
      exact ⟨rfl, fun B => below_drewN (Below.refl _ _) n, rfl⟩

theorem one_byte (x : Int) : ∀ u ∈ [Value.int .u8 x], u.oneCell' = true := by
  intro u hu
  rw [List.mem_singleton] at hu
  rw [hu]
  rfl

theorem one_str (s : ByteArray) : ∀ u ∈ [Value.string s], u.oneCell' = true := by
  intro u hu
  rw [List.mem_singleton] at hu
  rw [hu]
  rfl

theorem Own.emptyB (w : World) (lo : Nat) (h : lo ≤ w.heap.size) : Own (w.alloc (.cells #[] 5)) lo (w.alloc (.cells #[] 5)).heap.size 5 (.slice (some ⟨w.heap.size, 0, none⟩) 0 0) (bs []) :=
  Own.of (World.ownsRow_lit w #[] 0 h (Nat.zero_le _) rfl)

theorem Own.emptyS (w : World) (lo : Nat) (h : lo ≤ w.heap.size) : Own (w.alloc (.cells #[] 9)) lo (w.alloc (.cells #[] 9)).heap.size 9 (.slice (some ⟨w.heap.size, 0, none⟩) 0 0) (ss []) :=
  Own.of (World.ownsRow_lit w #[] 0 h (Nat.zero_le _) rfl)

/-- A draw, and behind it what lies from the start's end on. -/
theorem Drawn.on {W0 w w1 w' : World} {g : Nat} {vb : Value} {xs : List Int} (h : Drawn W0 w g vb xs w1) (hg : W0.heap.size ≤ g) (hgw : g < w.heap.size) (hb : Below w.heap.size w1 w') : Drawn W0 w g vb xs w' :=
  ⟨h.cur.later hb hgw, h.apart.on hb, h.below.trans (hb.mono (by omega))⟩
theorem Drawn.and {W0 w w1 w2 : World} {g : Nat} {vb : Value} {xs : List Int} (h : Drawn W0 w g vb xs w1) (k : Drawn W0 w1 g vb xs w2) : Drawn W0 w g vb xs w2 :=
  ⟨k.cur, h.apart.trans k.apart, k.below⟩
theorem Drawn.refl {W0 w : World} {g : Nat} {vb : Value} {xs : List Int} (hB : Below W0.heap.size W0 w) (hc : Cur w g vb xs.length) : Drawn W0 w g vb xs w :=
  ⟨hc, Apart.refl _ _ _, hB⟩
/-- What the call owns beside the cursor stays. -/
theorem Own.drawn {W0 w w' : World} {g lo hi : Nat} {vb : Value} {xs : List Int} {e : TypeId} {v : Value} {cs : List Value} (h : Own w lo hi e v cs) (hd : Drawn W0 w g vb xs w') (hgl : g < lo ∨ hi ≤ g) (hh : hi ≤ w.heap.size) : Own w' lo hi e v cs :=
  h.apart hd.apart (by omega) hh

theorem lit_block (w : World) (cs : Array Value) (t : TypeId) : (w.alloc (.cells cs t)).heap[w.heap.size]? = some (.cells cs t (0, 0)) := heap_alloc_new w _

theorem mask30 (x : Int) : 0 ≤ bits .and .i64 x 1073741823 ∧ bits .and .i64 x 1073741823 ≤ 1073741823 := by
  have h : ∀ a : BitVec 64, (a &&& (1073741823#64)).toNat ≤ 1073741823 := fun a => by rw [BitVec.toNat_and]; exact Nat.and_le_right
  have e : bits .and .i64 x 1073741823 = IntKind.i64.wrap ((BitVec.ofInt 64 x &&& 1073741823#64).toNat : Int) := rfl
  rw [e]
  have hb := h (BitVec.ofInt 64 x)
  rw [IntKind.wrap_i64]
  omega

set_option maxRecDepth 1000000 in
set_option maxHeartbeats 1000000 in
/-- l1New: a cursor in a new block. -/
theorem new_any (w : World) (vb : Value) (xs : List Int) (hs : Sl w vb (bs xs)) (hby : Byt xs) (hx : xs.length ≤ 140737488355328) :
    Calls Try.prog 26 #[vb] w fun e w' => e = .returned (.pointer (some ⟨w.heap.size, 0, none⟩)) ∧ Drawn w w w.heap.size vb xs w' := by
  obtain ⟨ao, cap, rfl, hc1, _, hr1⟩ := hs
  rw [bs_len] at hr1 hc1
  rw [bs_len]
  go_enter Try.func26, Try.ntmps26
  go_wp2
  go_loop [3, 4] (fun hh i => ∃ (k : Nat) (h : Int), k ≤ xs.length ∧ i = .int .i64 k ∧ hh = .int .i64 h ∧ 0 ≤ h ∧ h ≤ 1000000000000000) (fun _ i => xs.length - (intOf i).toNat)
  case atStart => exact ⟨0, 372372 + (xs.length : Int), Nat.zero_le _, rfl, rfl, by omega, by omega⟩
  case round =>
    obtain ⟨k, h, hk, rfl, rfl, h0, h1⟩ := hrel
    by_cases hlt : k < xs.length
    · have hd1 : decide ((k : Int) < (xs.length : Int)) = true := by simp; omega
      by_cases h4 : (k : Int) < 4000
      · have hd2 : decide ((k : Int) < 4000) = true := by simpa using h4
        obtain ⟨b, off, c, rfl, hx0, hcell⟩ := Sl.byteAt hr1 rfl hlt
        have hcb := hby.at hx0
        clear hx0 hr1 hby
        go_wp2
        go_round
        case rel => exact ⟨k + 1, _, by omega, by go_num, rfl, (mask30 _).1, by have := (mask30 (h * 137 + c + 11)).2; omega⟩
        case measure => simp [intOf]; omega
      · have hd2 : decide ((k : Int) < 4000) = false := by simpa using h4
        clear hr1
        go_wp2
        go_ret
        exact ⟨rfl, ⟨⟨0, h, lit_block _ _ _, Nat.zero_le _⟩, (Apart.refl _ _ _).on ((Below.refl _ _).alloc (Nat.le_refl _) _), (Below.refl _ _).alloc (Nat.le_refl _) _⟩⟩
    · have hd1 : decide ((k : Int) < (xs.length : Int)) = false := by simp; omega
      clear hr1
      go_wp2
      go_ret
      exact ⟨rfl, ⟨⟨0, h, lit_block _ _ _, Nat.zero_le _⟩, (Apart.refl _ _ _).on ((Below.refl _ _).alloc (Nat.le_refl _) _), (Below.refl _ _).alloc (Nat.le_refl _) _⟩⟩

/-- the texts that l1Texts draws of -/
def five : List ByteArray := [⟨#[]⟩, ⟨#[97]⟩, ⟨#[98, 99]⟩, ⟨#[0, 255]⟩, ⟨#[115, 111, 109, 101, 32, 109, 111, 114, 101, 32, 98, 121, 116, 101, 115]⟩]
theorem five_size : ∀ s ∈ five, s.size ≤ 15 := by decide

theorem big_no (w : World) (ao : Option Addr) (n cap : Nat) (h : ¬ 1048576 < n) : Calls Try.prog 7 #[.slice ao n cap] w fun e w' => e = .returned (.bool false) ∧ w = w' := by
  have hd : decide ((1048576 : Int) < (n : Int)) = false := by simp; omega
  go_enter Try.func7, Try.ntmps7
  go_wp2
  go_ret
  exact ⟨rfl, rfl⟩

theorem big_yes (w : World) (ao : Option Addr) (n cap : Nat) (h : 1048576 < n) : Calls Try.prog 7 #[.slice ao n cap] w fun e w' => e = .returned (.bool true) ∧ w = w' := by
  have hd : decide ((1048576 : Int) < (n : Int)) = true := by simp; omega
  go_enter Try.func7, Try.ntmps7
  go_wp2
  go_ret
  exact ⟨rfl, rfl⟩

end Go.Proofs.Yteemblfjghnooaa.Draw
