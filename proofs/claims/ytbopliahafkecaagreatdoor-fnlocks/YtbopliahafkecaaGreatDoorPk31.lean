/- Texts in one: SeB, SeC, SeE, HeO, TrD, Lk4, EntF. -/
import Derived.Test.YtbopliahafkecaaGreatDoorPk30
import Derived.Test.YtbopliahafkecaaGreatDoorPk21
import Derived.Test.YtbopliahafkecaaGreatDoorPk19
import Derived.Test.YtbopliahafkecaaGreatDoorPk24
import Derived.Test.YtbopliahafkecaaGreatDoorPk5
import Derived.Test.YtbopliahafkecaaGreatDoorPk23
/- Chapter 16, draws: what is wanted of entries. -/
namespace Go.Proofs.YtbopliahafkecaaGreatDoor.Se
open Go.RowKit Go.Proofs.YtbopliahafkecaaGreatDoor.Mem Go.Proofs.YtbopliahafkecaaGreatDoor.Laws Go.Proofs.YtbopliahafkecaaGreatDoor.Bytes Go.Proofs.YtbopliahafkecaaGreatDoor.Ver Go.Proofs.YtbopliahafkecaaGreatDoor.Ent Go.Proofs.YtbopliahafkecaaGreatDoor.Fe Go.Proofs.YtbopliahafkecaaGreatDoor.Draw
set_option linter.unusedVariables false
set_option linter.unusedSimpArgs false

/-- what is wanted of entries: names of theirs, in order -/
structure Wnt (T : List Ev) (R : List Nd) : Prop where
  up : Up R
  sub : ∀ n ∈ R, ∃ x ∈ T, x.n = n
theorem Wnt.nil (T : List Ev) : Wnt T [] := ⟨List.Pairwise.nil, fun n hn => (List.not_mem_nil hn).elim⟩
theorem Wnt.ins {T : List Ev} {R : List Nd} (h : Wnt T R) {x : Ev} (hx : x ∈ T) : Wnt T (insN R x.n) := by
  refine ⟨h.up.ins _, fun n hn => ?_⟩
  rcases ins_mem hn with rfl | h9
  · exact ⟨x, hx, rfl⟩
  · exact h.sub n h9
theorem ins_pos (l : List Nd) (n : Nd) : 1 ≤ (insN l n).length := by
  have : n ∈ insN l n := (ins_iff l n n).2 (.inl rfl)
  exact List.length_pos_of_mem this

end Go.Proofs.YtbopliahafkecaaGreatDoor.Se

/- Chapter 16, draws: drawn entries have drawn names and needs; the order of drawn versions. -/
namespace Go.Proofs.YtbopliahafkecaaGreatDoor.Se
open Go.RowKit Go.Proofs.YtbopliahafkecaaGreatDoor.Mem Go.Proofs.YtbopliahafkecaaGreatDoor.Laws Go.Proofs.YtbopliahafkecaaGreatDoor.Bytes Go.Proofs.YtbopliahafkecaaGreatDoor.Ver Go.Proofs.YtbopliahafkecaaGreatDoor.Ent Go.Proofs.YtbopliahafkecaaGreatDoor.Fe Go.Proofs.YtbopliahafkecaaGreatDoor.Draw Go.Proofs.YtbopliahafkecaaGreatDoor.Mod
set_option linter.unusedVariables false
set_option linter.unusedSimpArgs false

/-- what is drawn: a need, an entry -/
def Dq (m : Nd) : Prop := Dn m
def Dy (x : Ev) : Prop := Dq x.n ∧ x.l.length ≤ 3 ∧ ∀ m ∈ x.l, Dq m
theorem Dq.ins {l : List Nd} {n : Nd} (h : ∀ m ∈ l, Dq m) (hn : Dq n) : ∀ m ∈ insN l n, Dq m := fun m hm => by
  rcases ins_mem hm with rfl | h9
  · exact hn
  · exact h m h9
theorem okV_bare {a b c : Int} {p : ByteArray} (h : okV a b c p = true) : okV a b c ⟨#[]⟩ = true := by
  unfold okV at h ⊢
  simp only [Bool.and_eq_true] at h
  simp only [Bool.and_eq_true]
  exact ⟨h.1, by rfl⟩
theorem Dq.bare {n : Nd} (h : Dn n) : Dq ⟨n.path, n.a, n.b, n.c, ⟨#[]⟩⟩ := by
  obtain ⟨h1, h2, h3⟩ := h
  refine ⟨h1, ?_, by unfold preL; exact List.mem_cons_self ..⟩
  unfold Nd.ok fits4 at h2 ⊢
  simp only [Bool.and_eq_true] at h2 ⊢
  exact ⟨⟨h2.1.1, okV_bare h2.1.2⟩, h2.2⟩

end Go.Proofs.YtbopliahafkecaaGreatDoor.Se

/- Chapter 16, draws: needs in order. -/
namespace Go.Proofs.YtbopliahafkecaaGreatDoor.Se
open Go.RowKit Go.Proofs.YtbopliahafkecaaGreatDoor.Mem Go.Proofs.YtbopliahafkecaaGreatDoor.Laws Go.Proofs.YtbopliahafkecaaGreatDoor.Bytes Go.Proofs.YtbopliahafkecaaGreatDoor.Ver Go.Proofs.YtbopliahafkecaaGreatDoor.Ent Go.Proofs.YtbopliahafkecaaGreatDoor.Fe Go.Proofs.YtbopliahafkecaaGreatDoor.Draw
set_option linter.unusedVariables false
set_option linter.unusedSimpArgs false

/-- drawn needs in order -/
structure Dns (R : List Nd) : Prop where
  up : Up R
  all : ∀ n ∈ R, Dq n
theorem Dns.nil : Dns [] := ⟨List.Pairwise.nil, fun n hn => (List.not_mem_nil hn).elim⟩
theorem Dns.ins {R : List Nd} (h : Dns R) {n : Nd} (hn : Dq n) : Dns (insN R n) := ⟨h.up.ins _, Dq.ins h.all hn⟩

set_option maxRecDepth 1000000 in
set_option maxHeartbeats 8000000 in
theorem needs16_any (W0 w : World) (g : Nat) (vb : Value) (xs : List Int) (hs : Sl W0 vb (bs xs)) (hby : Byt xs) (hx : xs.length ≤ 140737488355328) (hB : Below W0.heap.size W0 w) (hg : W0.heap.size ≤ g) (hcu : Cur w g vb xs.length) :
    Calls Tryz.prog 21 #[.pointer (some ⟨g, 0, none⟩)] w fun e w' => ∃ (v' : Value) (R : List Nd), e = .returned v' ∧ R.length ≤ 3 ∧ Dns R ∧ Od w' w.heap.size w'.heap.size v' R ∧ Drawn W0 w g vb xs w' := by
  have HSW : Hid (Sl W0 vb (bs xs)) := hs
  have hgw := hcu.lt
  clear hs
  have B0 : Hid (Apart g (g + 1) w w) := Apart.refl _ _ _
  have cu0 : Hid (Cur w (g) vb xs.length) := hcu
  have bw0 : Hid (Below W0.heap.size W0 w) := hB
  go_enter Tryz.func21, Tryz.ntmps21
  obtain ⟨W1, HW1, b1, f_d1⟩ : ∃ X, Hid (w.alloc (.cells #[] 47) = X) ∧ Below w.heap.size w X ∧ Hid (Odt X w.heap.size X.heap.size (.slice (some ⟨w.heap.size, 0, none⟩) 0 0) []) := ⟨_, rfl, (Below.refl _ _).alloc (Nat.le_refl _) _, ⟨On.lit 5 w w.heap.size 47 (Nat.le_refl _), Nat.le_refl _⟩⟩
  have z1 := b1.size
  have B1 := Kd.B B0 b1
  have cu1 := Kd.c cu0 b1
  have bw1 := Ke.b bw0 b1
  clear cu0 bw0
  clear b1
  go_wp2_with fail
  rw [HW1.out]
  refine (below_any W0 W1 g vb xs 4 (by omega) (by omega) HSW.out hby hx bw1.out hg cu1.out).mono ?_
  rintro e W2 ⟨y, rfl, hy0, hy1, d2⟩
  have z2 := d2.apart.size
  have B2 := Kd.D B1 d2
  have cu2 := Kd.e d2
  have bw2 := Kd.f d2
  have f_d2 : Hid (Odt W2 w.heap.size W1.heap.size (.slice (some ⟨w.heap.size, 0, none⟩) 0 0) []) := Odt.drawn f_d1.out d2 (by omega)
  clear cu1 bw1 d2 f_d1
  obtain ⟨j0, hj0, hj2⟩ : ∃ j : Nat, y = (j : Int) ∧ j ≤ 3 := ⟨y.toNat, by omega, by omega⟩
  subst hj0
  clear hy0 hy1
  go_wp2
  go_loopw [3, 4] (fun rv iv wr => ∃ (j : Nat) (R : List Nd) (a8 : Option Addr) (L8 c8 lo8 hi8 : Nat), rv = .slice a8 L8 c8 ∧ iv = .int .i64 (j : Int) ∧ R.length + j ≤ 3 ∧ w.heap.size ≤ lo8 ∧ lo8 ≤ hi8 ∧ hi8 ≤ wr.heap.size ∧ w.heap.size ≤ wr.heap.size ∧ Hid (Dns R) ∧ Hid (Odt wr lo8 hi8 (.slice a8 L8 c8) R) ∧ Hid (Apart g (g + 1) w wr) ∧ Hid (Cur wr (g) vb xs.length) ∧ Hid (Below W0.heap.size W0 wr)) (fun _ iv _ => (intOf iv).toNat)
  case atStart => exact ⟨j0, [], some ⟨w.heap.size, 0, none⟩, 0, 0, w.heap.size, W1.heap.size, rfl, rfl, by simp; omega, Nat.le_refl _, by omega, by omega, by omega, Dns.nil, f_d2, B2, cu2, bw2⟩
  case round =>
    obtain ⟨j, R, a8, L8, c8, lo8, hi8, rfl, rfl, hRj, hlo8, hlh8, hhi8, hwW, HWN, f_d3, B3, cu3, bw3⟩ := hrel
    obtain ⟨W3, hW3⟩ : ∃ X, X = wr := ⟨_, rfl⟩
    subst hW3
    clear f_d2 cu2 bw2
    by_cases hj0 : j = 0
    · subst hj0
      go_wp2
      go_ret
      exact ⟨_, R, rfl, by omega, HWN.out, On.mono f_d3.out.1 hlo8 f_d3.out.2, ⟨cu3.out, B3.out, bw3.out⟩⟩
    · obtain ⟨i2, rfl⟩ : ∃ i2, j = i2 + 1 := ⟨j - 1, by omega⟩
      have d0 : (0 : Int) < ((i2 + 1 : Nat) : Int) := by omega
      have wj : IntKind.i64.wrap (((i2 + 1 : Nat) : Int) - 1) = (i2 : Int) := by rw [IntKind.wrap_i64]; omega
      clear hj0
      go_wp2_with fail
      refine (need_any W0 W3 g vb xs HSW.out hby hx bw3.out hg cu3.out).mono ?_
      rintro e W4 ⟨n, rfl, hn0, d4⟩
      have z4 := d4.apart.size
      have B4 := Kd.D B3 d4
      have cu4 := Kd.e d4
      have bw4 := Kd.f d4
      have f_d4 : Hid (Odt W4 lo8 hi8 (.slice a8 L8 c8) R) := Odt.drawn f_d3.out d4 (by omega)
      clear cu3 bw3 d4 f_d3
      go_wp2_with fail
      refine (put_any W4 _ R n f_d4.out.1.sd (by omega)).mono ?_
      rintro e W5 ⟨v9, rfl, od9, b5⟩
      have z5 := b5.size
      have B5 := Kd.B B4 b5
      have f_d5 : Hid (Odt W5 lo8 hi8 (.slice a8 L8 c8) R) := Odt.later f_d4.out b5
      clear f_d4
      have cu5 := Kd.c cu4 b5
      have bw5 := Ke.b bw4 b5
      clear cu4 bw4
      obtain ⟨a9, L9, c9, rfl⟩ : ∃ a9 L9 c9, v9 = .slice a9 L9 c9 := by obtain ⟨a9, c9, e9⟩ := Od.slice od9; exact ⟨a9, _, c9, e9⟩
      clear f_d5
      have f_d5 : Hid (Odt W5 W4.heap.size W5.heap.size (.slice a9 L9 c9) (insN R n)) := ⟨od9, Nat.le_refl _⟩
      clear od9
      have HWN2 : Hid (Dns (insN R n)) := HWN.out.ins hn0
      have hRk2 := ins_grow R n
      go_wp2
      go_roundw
      case rel => exact ⟨i2, insN R n, a9, L9, c9, W4.heap.size, W5.heap.size, rfl, by go_num, by omega, by omega, by omega, by omega, by omega, HWN2, f_d5, B5, cu5, bw5⟩
      case measure => (simp [intOf]; try omega)

end Go.Proofs.YtbopliahafkecaaGreatDoor.Se

/- Chapter 10: the head of texts (the specification's side). -/
namespace Go.Proofs.YtbopliahafkecaaGreatDoor.He
open Go.RowKit Go.Proofs.YtbopliahafkecaaGreatDoor.Mem Go.Proofs.YtbopliahafkecaaGreatDoor.Laws Go.Proofs.YtbopliahafkecaaGreatDoor.Bytes Go.Proofs.YtbopliahafkecaaGreatDoor.Sha Go.Proofs.YtbopliahafkecaaGreatDoor.Tr
set_option linter.unusedVariables false
set_option linter.unusedSimpArgs false

set_option maxRecDepth 1000000 in
set_option maxHeartbeats 1000000 in
theorem headOf_spec (w : World) (v : Value) (l : List ByteArray) (h : Sl w v (ss l)) (hl : l.length ≤ 1000000000000) (hz : ∀ s ∈ l, s.size ≤ 10000000000) :
    Calls Tryz.prog 18 #[v] w fun e w' => e = .returned (.agg #[.int .i64 (headOf l).n, .string (headOf l).r]) ∧ Below w.heap.size w w' := by
  have HR : Hid ((w.alloc (.cells #[.int .i64 0, .string ⟨#[]⟩] 25)).heap[w.heap.size]? = some (.cells (hc hd0) 25 (0, 0))) := heap_alloc_new w _
  have HB : Hid (Below w.heap.size w (w.alloc (.cells #[.int .i64 0, .string ⟨#[]⟩] 25))) := (Below.refl _ _).alloc (Nat.le_refl _) _
  by_cases h2 : l.length ≤ 200
  · have q := root_any l.length l (Nat.le_refl _) (w.alloc (.cells #[.int .i64 0, .string ⟨#[]⟩] 25)) v (h.later HB.out) (by omega) hz
    obtain ⟨M, hM⟩ : ∃ M, headOf l = M := ⟨_, rfl⟩
    have hM2 : M = ⟨l.length, root l⟩ := by rw [← hM]; unfold headOf; rw [if_pos h2]
    obtain ⟨ao, cap, rfl, hcap, _⟩ := h
    have d2 : ¬ (200 : Int) < (l.length : Int) := by omega
    obtain ⟨x, hx⟩ : ∃ x, root l = x := ⟨_, rfl⟩
    rw [hx] at q hM2
    rw [hM, hM2]
    rw [ss_len] at *
    clear hx hM hM2 hz
    go_enter Tryz.func18, Tryz.ntmps18
    go_wp2_with fail
    refine q.mono ?_
    rintro e w1 ⟨rfl, b1⟩
    have R1 := rowKeep HR.out b1
    have B1 : Below w.heap.size w w1 := HB.out.trans (b1.mono HB.out.size)
    clear q HR b1
    go_wp2_with (refine wpList_store_row rfl 25 _ _ rfl w.heap.size (hc (⟨(l.length : Int), x⟩ : Hd)) rfl rfl 25 _ R1 (sizeH (⟨(l.length : Int), x⟩ : Hd)) rfl (oneH (⟨(l.length : Int), x⟩ : Hd)) ?_)
    exact bodyPost_ret (v := .agg (hc ⟨(l.length : Int), x⟩)) (results_cell_row rfl _ _ w.heap.size 25 _ (0, 0) _ rfl (setRow_heap _ _ _ _ _ (0, 0) R1) Tryz.underlying25 rfl (sizeH _)) rfl ⟨rfl, below_setRow B1 (Nat.le_refl _) _⟩
  · have d2 : (200 : Int) < (l.length : Int) := by omega
    have hM : headOf l = hd0 := by unfold headOf; rw [if_neg h2]
    rw [hM]
    obtain ⟨ao, cap, rfl, hcap, _⟩ := h
    rw [ss_len]
    clear hz hM
    go_enter Tryz.func18, Tryz.ntmps18
    go_wp2_with (refine wpList_store_row rfl 25 _ _ rfl w.heap.size (hc hd0) rfl rfl 25 _ HR.out (sizeH hd0) rfl (oneH hd0) ?_)
    exact bodyPost_ret (v := .agg (hc hd0)) (results_cell_row rfl _ _ w.heap.size 25 _ (0, 0) _ rfl (setRow_heap _ _ _ _ _ (0, 0) HR.out) Tryz.underlying25 rfl (sizeH hd0)) rfl ⟨rfl, below_setRow HB.out (Nat.le_refl _) _⟩

theorem headOf_size (l : List ByteArray) : (headOf l).r.size ≤ 32 := by
  unfold headOf
  split
  · simp only [root_size]; exact Nat.le_refl _
  · exact Nat.zero_le _

end Go.Proofs.YtbopliahafkecaaGreatDoor.He

/- Chapter 6: drawn leaves. -/
namespace Go.Proofs.YtbopliahafkecaaGreatDoor.Tr
open Go.RowKit Go.Proofs.YtbopliahafkecaaGreatDoor.Mem Go.Proofs.YtbopliahafkecaaGreatDoor.Laws Go.Proofs.YtbopliahafkecaaGreatDoor.Bytes Go.Proofs.YtbopliahafkecaaGreatDoor.Sha Go.Proofs.YtbopliahafkecaaGreatDoor.Draw
set_option linter.unusedVariables false
set_option linter.unusedSimpArgs false

/-- the texts that l6List draws of -/
def four6 : List ByteArray := [⟨#[]⟩, ⟨#[97]⟩, ⟨#[98]⟩, ⟨#[120, 121, 122]⟩]
theorem four6_size : ∀ s ∈ four6, s.size ≤ 3 := by decide

set_option maxRecDepth 1000000 in
set_option maxHeartbeats 1000000 in
theorem list_any (W0 w : World) (g : Nat) (vb : Value) (xs : List Int) (hs : Sl W0 vb (bs xs)) (hby : Byt xs) (hx : xs.length ≤ 140737488355328) (hB : Below W0.heap.size W0 w) (hg : W0.heap.size ≤ g) (hc : Cur w g vb xs.length) :
    Calls Tryz.prog 19 #[.pointer (some ⟨g, 0, none⟩)] w fun e w' => ∃ (v' : Value) (l : List ByteArray), e = .returned v' ∧ l.length ≤ 8 ∧ (∀ s ∈ l, s.size ≤ 3) ∧ Own w' w.heap.size w'.heap.size 9 v' (ss l) ∧ Drawn W0 w g vb xs w' := by
  obtain ⟨i0, hi, hz0, hz1, hz2⟩ := info_parts info9t
  have hgw := hc.lt
  have hd0 : Drawn W0 w g vb xs (w.alloc (.cells #[] 9)) := (Drawn.refl hB hc).on hg hgw ((Below.refl _ _).alloc (Nat.le_refl _) _)
  have ho0 := emptyT w w.heap.size (Nat.le_refl _)
  have hd00 : ∀ o, Drawn W0 w g vb xs ((w.alloc (.cells #[] 9)).alloc o) := fun o => hd0.on hg hgw ((Below.refl _ _).alloc (by simp) _)
  have ho00 : ∀ o, Own ((w.alloc (.cells #[] 9)).alloc o) w.heap.size ((w.alloc (.cells #[] 9)).alloc o).heap.size 9 _ (ss []) := fun o => ho0.alloc o
  go_enter Tryz.func19, Tryz.ntmps19
  go_wp2_with fail
  refine (int_any W0 _ g vb xs (w.heap.size + 1) [0, 1, 2, 3, 4, 5, 7, 8, 6] (by rw [← World.size_alloc w (.cells #[] 9)]; exact lit_block _ _ _) (by omega) (by simp) (by simp) hs hby hx (hd00 _).below hg (hd00 _).cur).mono ?_
  rintro e w1 ⟨x, rfl, xm, hd1⟩
  have hx8 : 0 ≤ x ∧ x ≤ 8 := by simp only [List.mem_cons, List.not_mem_nil, or_false] at xm; omega
  obtain ⟨n, rfl⟩ := Int.eq_ofNat_of_zero_le hx8.1
  have ho1 : Own w1 w.heap.size w1.heap.size 9 _ (ss []) := (Own.drawn (ho00 _) hd1 (.inl hgw) (Nat.le_refl _)).mono (Nat.le_refl _) hd1.apart.size
  have hd2 := (hd00 _).and hd1
  have hn8 : n ≤ 8 := by omega
  clear hd0 ho0 hd1 hd00 ho00 xm hx8
  go_wp2
  go_loopw [3, 4] (fun out i wr => ∃ (k : Nat) (l : List ByteArray), k ≤ 8 ∧ i = .int .i64 k ∧ l.length + k ≤ 8 ∧ (∀ s ∈ l, s.size ≤ 3) ∧ Own wr w.heap.size wr.heap.size 9 out (ss l) ∧ Drawn W0 w g vb xs wr) (fun _ i _ => (intOf i).toNat)
  case atStart => exact ⟨n, [], by omega, rfl, by simp; omega, fun s hs => (by cases hs), ho1, hd2⟩
  case round =>
    obtain ⟨k, l, hk, rfl, hll, hls, ho, hd⟩ := hrel
    have HY : Hid (∀ s ∈ l, s.size ≤ 3) := hls
    clear hls ho1 hd2
    by_cases hlt : 0 < k
    · have hd3 : ∀ o, Drawn W0 w g vb xs (wr.alloc o) := fun o => hd.on hg hgw ((Below.refl _ _).alloc hd.apart.size _)
      have hgr : g < wr.heap.size := hd.cur.lt
      go_wp2_with fail
      refine (str_any W0 _ g vb xs wr.heap.size four6 (lit_block _ _ _) (by omega) (by decide) (by decide) hs hby hx (hd3 _).below hg (hd3 _).cur).mono ?_
      rintro e w2 ⟨s, rfl, hsm, hd4⟩
      have hsz := four6_size s hsm
      have ho2 : Own w2 w.heap.size w2.heap.size 9 _ (ss l) := (Own.drawn (ho.alloc _) hd4 (.inl hgw) (Nat.le_refl _)).mono (Nat.le_refl _) hd4.apart.size
      have hd5 := (hd3 _).and hd4
      have hsz2 : w.heap.size ≤ w2.heap.size := hd5.apart.size
      have c2 : (ss l).length + 1 ≤ maxLen := by rw [ss_len]; unfold maxLen; omega
      have c3 : ((ss l).length + 1) * 16 ≤ 140737488355328 := by rw [ss_len]; omega
      have c4 : ∀ o, w.heap.size ≤ (w2.alloc o).heap.size := fun o => by simp; omega
      clear hd3 hd4 ho hd
      go_wp2_with (at_builtin; go_must (refine wpl_app _ rfl (.tmp 13) (.tmp 17) 40 rfl 9 i0 (.string ⟨#[]⟩) 16 Tryz.underlying40 hi hz0 hz1 hz2 rfl w.heap.size _ (ss l) rfl (ho2.alloc _) _ rfl [.string s] (Sl.one _ _ _) (oneT _) c2 c3 (c4 _) ?_); intro v3 w3 ho3 hb3 hg3)
      have hd6 := hd5.on hg hgw (((Below.refl _ _).alloc hsz2 _).trans hb3)
      have ho4 : Own w3 w.heap.size w3.heap.size 9 v3 (ss (l ++ [s])) := by rw [ss_app]; exact ho3
      have HN : Hid (∀ z ∈ l ++ [s], z.size ≤ 3) := by
        intro z hz
        rcases List.mem_append.1 hz with hz | hz
        · exact HY.out z hz
        · rw [List.mem_singleton] at hz; rw [hz]; exact hsz
      go_roundw
      case rel => exact ⟨k - 1, l ++ [s], by omega, by go_num, by simp; omega, HN.out, ho4, hd6⟩
      case measure => simp [intOf]; omega
    · go_wp2
      go_ret
      exact ⟨_, l, rfl, by omega, HY.out, ho, hd⟩

end Go.Proofs.YtbopliahafkecaaGreatDoor.Tr

/- Chapter 17, draws: a head and needs. -/
namespace Go.Proofs.YtbopliahafkecaaGreatDoor.Lk
open Go.RowKit Go.Proofs.YtbopliahafkecaaGreatDoor.Mem Go.Proofs.YtbopliahafkecaaGreatDoor.Laws Go.Proofs.YtbopliahafkecaaGreatDoor.Bytes Go.Proofs.YtbopliahafkecaaGreatDoor.Sha Go.Proofs.YtbopliahafkecaaGreatDoor.Ver Go.Proofs.YtbopliahafkecaaGreatDoor.Mod Go.Proofs.YtbopliahafkecaaGreatDoor.Ent Go.Proofs.YtbopliahafkecaaGreatDoor.He Go.Proofs.YtbopliahafkecaaGreatDoor.Fe Go.Proofs.YtbopliahafkecaaGreatDoor.Se Go.Proofs.YtbopliahafkecaaGreatDoor.Draw
set_option linter.unusedVariables false
set_option linter.unusedSimpArgs false

theorem rowLow {w w' : World} {g lo : Nat} {o : Obj} (h : w.heap[g]? = some o) (b : Below lo w w') (hg : g < lo) : w'.heap[g]? = some o := (b.block g hg).trans h
/-- what a drawn head and its needs have -/
structure Dl (h : Hd) (R : List Nd) : Prop where
  root : h.r.size ≤ 32
  len : R.length ≤ 4
  all : ∀ n ∈ R, Dq n

set_option maxRecDepth 1000000 in
set_option maxHeartbeats 8000000 in
theorem drawLock_any (w : World) (vb : Value) (xs : List Int) (hs : Sl w vb (bs xs)) (hby : Byt xs) (hx : xs.length ≤ 140737488355328) :
    Calls Tryz.prog 6 #[vb] w fun e w' => ∃ (h : Hd) (v : Value) (R : List Nd), e = .returned (.tuple #[.agg #[.int .i64 h.n, .string h.r], v]) ∧ Dl h R ∧ Od w' w.heap.size w'.heap.size v R ∧ Below w.heap.size w w' := by
  obtain ⟨i0, hi, hz0, hz1, hz2⟩ := info_parts infoN
  have HSL : Hid (Sl w vb (bs xs)) := hs
  clear hs
  have B0 : Hid (Below w.heap.size w w) := Below.refl _ _
  obtain ⟨W1, HW1, b1, y1, hS1, r_res1⟩ := Ke.l1 w #[.int .i64 0, .string ⟨#[]⟩] 25
  have z1 := b1.size
  have B1 := Ke.b B0 b1
  have c_res1 := Ke.c r_res1
  go_enter Tryz.func6, Tryz.ntmps6
  go_wp2_with fail
  rw [HW1.out]
  refine (new_any W1 _ xs (HSL.out.later B1.out) hby hx).mono ?_
  rintro e W2 ⟨rfl, d2⟩
  have hcg : W1.heap.size < W2.heap.size := d2.cur.lt
  have HSW : Hid (Sl W1 vb (bs xs)) := (HSL.out.later B1.out)
  have cu1 : Hid True := trivial
  have bw1 : Hid True := trivial
  have z2 := d2.apart.size
  have B2 : Hid (Below w.heap.size w W2) := B1.out.trans (d2.below.mono B1.out.size)
  have cu2 := Kd.e d2
  have bw2 := Kd.f d2
  have r_res2 : Hid (W2.heap[w.heap.size]? = some (.cells #[.int .i64 0, .string ⟨#[]⟩] 25 (0, 0))) := drawnRow r_res1.out d2 (by omega)
  have c_res2 := Ke.c r_res2
  clear r_res1 c_res1
  clear cu1 bw1 d2
  go_wp2_with fail
  refine (Tr.list_any W1 W2 (W1.heap.size) _ xs HSW.out hby hx bw2.out (Nat.le_refl _) cu2.out).mono ?_
  rintro e W3 ⟨v_ls, ls, rfl, hls8, hls3, o_ls3, d3⟩
  obtain ⟨ao_ls, L_ls, cap_ls, rfl, hL_ls, hM_ls⟩ := o_ls3.form
  have o_ls3 : Hid (Own W3 W2.heap.size W3.heap.size 9 (.slice ao_ls L_ls cap_ls) (ss ls)) := o_ls3
  clear hL_ls hM_ls
  have z3 := d3.apart.size
  have B3 : Hid (Below w.heap.size w W3) := B1.out.trans (d3.below.mono B1.out.size)
  have cu3 := Kd.e d3
  have bw3 := Kd.f d3
  have r_res3 : Hid (W3.heap[w.heap.size]? = some (.cells #[.int .i64 0, .string ⟨#[]⟩] 25 (0, 0))) := drawnRow r_res2.out d3 (by omega)
  have c_res3 := Ke.c r_res3
  clear r_res2 c_res2
  clear cu2 bw2 d3
  have qH := headOf_spec W3 _ ls o_ls3.out.sl (by omega) (fun s hs => by have := hls3 s hs; omega)
  have hHz := headOf_size ls
  obtain ⟨⟨hn, hr⟩, hH⟩ : ∃ H, headOf ls = H := ⟨_, rfl⟩
  rw [hH] at qH hHz
  simp only at qH hHz
  clear hH
  go_wp2_with fail
  refine (qH).mono ?_
  rintro e W4 ⟨rfl, b4⟩
  have z4 := b4.size
  have B4 := Ke.b B3 b4
  have r_res4 := Ke.r r_res3 b4
  have o_ls4 := Ke.o o_ls3 b4
  have c_res4 := Ke.c r_res4
  clear r_res3 c_res3 o_ls3
  have cu4 := Kd.c cu3 b4
  have bw4 := Ke.b bw3 b4
  clear cu3 bw3
  clear qH
  clear o_ls4
  have a_res4 := Ke.a r_res4
  obtain ⟨W5, HW5, b5, y5, hS5, r_h5⟩ := Ke.l1 W4 #[.int .i64 hn, .string hr] 25
  have z5 := b5.size
  have B5 := Ke.b B4 b5
  have r_res5 := Ke.r r_res4 b5
  have c_res5 := Ke.c r_res5
  have c_h5 := Ke.c r_h5
  clear r_res4 c_res4
  have cu5 := Kd.c cu4 b5
  have bw5 := Ke.b bw4 b5
  clear cu4 bw4
  go_wp2_with fail
  rw [HW5.out]
  clear a_res4
  refine (once_any W1 W5 (W1.heap.size) _ xs 10 (by omega) (by omega) HSW.out hby hx bw5.out (Nat.le_refl _) cu5.out).mono ?_
  rintro e W6 ⟨bb, rfl, d6⟩
  have z6 := d6.apart.size
  have B6 : Hid (Below w.heap.size w W6) := B1.out.trans (d6.below.mono B1.out.size)
  have cu6 := Kd.e d6
  have bw6 := Kd.f d6
  have r_res6 : Hid (W6.heap[w.heap.size]? = some (.cells #[.int .i64 0, .string ⟨#[]⟩] 25 (0, 0))) := drawnRow r_res5.out d6 (by omega)
  have r_h6 : Hid (W6.heap[W4.heap.size]? = some (.cells #[.int .i64 hn, .string hr] 25 (0, 0))) := drawnRow r_h5.out d6 (by omega)
  have c_res6 := Ke.c r_res6
  have c_h6 := Ke.c r_h6
  clear r_res5 c_res5 r_h5 c_h5
  clear cu5 bw5 d6
  cases bb
  · go_wp2_with fail
    refine (needs16_any W1 W6 (W1.heap.size) _ xs HSW.out hby hx bw6.out (Nat.le_refl _) cu6.out).mono ?_
    rintro e W7 ⟨v8, R, rfl, hR3, hDS, o8, d7⟩
    have z7 := d7.apart.size
    have B7 : Hid (Below w.heap.size w W7) := B1.out.trans (d7.below.mono B1.out.size)
    have cu7 := Kd.e d7
    have bw7 := Kd.f d7
    have r_res7 : Hid (W7.heap[w.heap.size]? = some (.cells #[.int .i64 0, .string ⟨#[]⟩] 25 (0, 0))) := drawnRow r_res6.out d7 (by omega)
    have r_h7 : Hid (W7.heap[W4.heap.size]? = some (.cells #[.int .i64 hn, .string hr] 25 (0, 0))) := drawnRow r_h6.out d7 (by omega)
    have c_res7 := Ke.c r_res7
    have c_h7 := Ke.c r_h7
    clear r_res6 c_res6 r_h6 c_h6
    clear cu6 bw6 d7
    obtain ⟨a8, c8, rfl⟩ := Od.slice o8
    have HDS := Ke.h hDS
    clear hDS
    have f_d7 : Hid (Odt W7 W6.heap.size W7.heap.size (.slice a8 R.length c8) R) := ⟨o8, Nat.le_refl _⟩
    clear o8
    go_wp2_with fail
    refine (once_any W1 W7 (W1.heap.size) _ xs 6 (by omega) (by omega) HSW.out hby hx bw7.out (Nat.le_refl _) cu7.out).mono ?_
    rintro e W8 ⟨b2, rfl, d8⟩
    have z8 := d8.apart.size
    have B8 : Hid (Below w.heap.size w W8) := B1.out.trans (d8.below.mono B1.out.size)
    have cu8 := Kd.e d8
    have bw8 := Kd.f d8
    have r_res8 : Hid (W8.heap[w.heap.size]? = some (.cells #[.int .i64 0, .string ⟨#[]⟩] 25 (0, 0))) := drawnRow r_res7.out d8 (by omega)
    have r_h8 : Hid (W8.heap[W4.heap.size]? = some (.cells #[.int .i64 hn, .string hr] 25 (0, 0))) := drawnRow r_h7.out d8 (by omega)
    have f_d8 : Hid (Odt W8 W6.heap.size W7.heap.size (.slice a8 R.length c8) R) := Odt.drawn f_d7.out d8 (by omega)
    have c_res8 := Ke.c r_res8
    have c_h8 := Ke.c r_h8
    clear r_res7 c_res7 r_h7 c_h7
    clear cu7 bw7 d8 f_d7
    cases b2
    · go_wp2_with (first | (refine wpList_load_row rfl 25 _ rfl (W4.heap.size) rfl 25 (hc ⟨hn, hr⟩) (0, 0) _ r_h8.out Tryz.underlying25 rfl (sizeH _) ?_) | (refine wpList_store_row rfl 25 _ _ rfl (w.heap.size) (hc ⟨hn, hr⟩) rfl rfl 25 _ r_res8.out (sizeH _) rfl (oneH _) ?_))
      refine bodyPost_ret (res_row_tmp rfl _ _ (w.heap.size) 25 (hc ⟨hn, hr⟩) (0, 0) _ rfl (setRow_heap _ _ _ _ _ (0, 0) r_res8.out) Tryz.underlying25 rfl (sizeH _)) rfl ⟨⟨hn, hr⟩, .slice a8 R.length c8, R, rfl, ?_, ?_, below_setRow B8.out (by omega) _⟩
      · exact ⟨by first | exact hHz | (show (⟨#[120]⟩ : ByteArray).size ≤ 32; decide), by omega, HDS.out.all⟩
      · exact On.mono (On.keep (Odt.wide f_d8.out (Nat.le_refl _)) fun j h1 h2 => setRow_other _ _ _ _ (by omega)) (by omega) (by rw [size_setRow]; exact Nat.le_refl _)
    · go_wp2_with fail
      refine (need_any W1 W8 (W1.heap.size) _ xs HSW.out hby hx bw8.out (Nat.le_refl _) cu8.out).mono ?_
      rintro e W9 ⟨x, rfl, hDx, d9⟩
      have z9 := d9.apart.size
      have B9 : Hid (Below w.heap.size w W9) := B1.out.trans (d9.below.mono B1.out.size)
      have cu9 := Kd.e d9
      have bw9 := Kd.f d9
      have r_res9 : Hid (W9.heap[w.heap.size]? = some (.cells #[.int .i64 0, .string ⟨#[]⟩] 25 (0, 0))) := drawnRow r_res8.out d9 (by omega)
      have r_h9 : Hid (W9.heap[W4.heap.size]? = some (.cells #[.int .i64 hn, .string hr] 25 (0, 0))) := drawnRow r_h8.out d9 (by omega)
      have f_d9 : Hid (Odt W9 W6.heap.size W7.heap.size (.slice a8 R.length c8) R) := Odt.drawn f_d8.out d9 (by omega)
      have c_res9 := Ke.c r_res9
      have c_h9 := Ke.c r_h9
      clear r_res8 c_res8 r_h8 c_h8
      clear cu8 bw8 d9 f_d8
      have HDX := Ke.h hDx
      clear hDx
      have k1 : R.length + 1 ≤ maxLen := by unfold maxLen; omega
      have k2 : (R.length + 1) * 56 ≤ 140737488355328 := by omega
      have k3 : ∀ ob, W6.heap.size ≤ (W9.alloc ob).heap.size := fun ob => by simp; omega
      have O2 : ∀ ob, On 5 (W9.alloc ob) W6.heap.size (W9.alloc ob).heap.size 47 (.slice a8 R.length c8) R.length (nds R) := fun ob => On.alloc (Odt.wide f_d9.out (Nat.le_refl _)) ob
      go_wp2_with (at_builtin; go_must (refine wpl_appn 5 (by omega) _ rfl (.tmp 19) (.tmp 22) 26 rfl 47 i0 (.agg #[.string ⟨#[]⟩, .int .i64 0, .int .i64 0, .int .i64 0, .string ⟨#[]⟩]) 56 Tryz.underlying26 hi hz0 hz1 hz2 rfl W6.heap.size _ R.length (nds R) rfl (O2 _) _ rfl 1 x.cs (Sn.one 5 W9 (nc x) 47 rfl) (cs_oneN x) k1 k2 (k3 _) ?_))
      intro v0 W10 o0 b0 _
      have bb0 : Below W6.heap.size W9 W10 := ((Below.refl _ _).alloc (by omega) _).trans b0
      have r_h10 := Ke.h (rowLow r_h9.out bb0 (by omega))
      have r_res10 := Ke.h (rowLow r_res9.out bb0 (by omega))
      have B10 : Hid (Below w.heap.size w W10) := B9.out.trans (bb0.mono (by have := B9.out.size; omega))
      obtain ⟨a0, c0, rfl⟩ := on_slice5 o0
      have HO : Hid (Od W10 W6.heap.size W10.heap.size (.slice a0 (R.length + 1) c0) (R ++ [x])) := Od.snoc o0
      have z10 := bb0.size
      clear O2 o0 b0
      go_wp2_with (first | (refine wpList_load_row rfl 25 _ rfl (W4.heap.size) rfl 25 (hc ⟨hn, hr⟩) (0, 0) _ r_h10.out Tryz.underlying25 rfl (sizeH _) ?_) | (refine wpList_store_row rfl 25 _ _ rfl (w.heap.size) (hc ⟨hn, hr⟩) rfl rfl 25 _ r_res10.out (sizeH _) rfl (oneH _) ?_))
      refine bodyPost_ret (res_row_tmp rfl _ _ (w.heap.size) 25 (hc ⟨hn, hr⟩) (0, 0) _ rfl (setRow_heap _ _ _ _ _ (0, 0) r_res10.out) Tryz.underlying25 rfl (sizeH _)) rfl ⟨⟨hn, hr⟩, .slice a0 (R.length + 1) c0, R ++ [x], rfl, ?_, ?_, below_setRow B10.out (by omega) _⟩
      · exact ⟨by first | exact hHz | (show (⟨#[120]⟩ : ByteArray).size ≤ 32; decide), by simp; omega, fun n hn => by rcases List.mem_append.1 hn with h9 | h9; exact HDS.out.all n h9; rw [List.mem_singleton.1 h9]; exact HDX.out⟩
      · exact On.mono (On.keep HO.out fun j h1 h2 => setRow_other _ _ _ _ (by omega)) (by omega) (by rw [size_setRow]; exact Nat.le_refl _)
  · go_wp2_with (refine wpl_oneG rfl 9 _ _ rfl (W4.heap.size) 1 (.string ⟨#[120]⟩) rfl rfl [.int .i64 hn, .string hr] 25 r_h6.out (Nat.le_of_ble_eq_true rfl) (by kernel_rfl) rfl [.int .i64 hn, .string ⟨#[120]⟩] rfl ?_)
    intro W7 r_h7 g7
    have cu7 : Hid (Cur W7 (W1.heap.size) vb xs.length) := cu6.out.gro g7 (fun h9 => by injection h9 with h9; omega)
    have bw7 : Hid (Below W1.heap.size W1 W7) := belowGro bw6.out g7 bw6.out.size (fun k9 h9 => by injection h9 with h9; omega)
    clear cu6 bw6
    have r_h7 : Hid (W7.heap[W4.heap.size]? = some (.cells #[.int .i64 hn, .string ⟨#[120]⟩] 25 (0, 0))) := r_h7
    have z7 := g7.size
    have B7 : Hid (Below w.heap.size w W7) := belowGro B6.out g7 B6.out.size (fun k9 h9 => by injection h9 with h9; have := B6.out.size; omega)
    have r_res7 := Ke.s r_res6 g7
    have c_res7 := Ke.c r_res7
    have c_h7 := Ke.c r_h7
    clear r_res6 c_res6
    clear r_h6 c_h6
    clear g7
    go_wp2_with fail
    refine (needs16_any W1 W7 (W1.heap.size) _ xs HSW.out hby hx bw7.out (Nat.le_refl _) cu7.out).mono ?_
    rintro e W8 ⟨v8, R, rfl, hR3, hDS, o8, d8⟩
    have z8 := d8.apart.size
    have B8 : Hid (Below w.heap.size w W8) := B1.out.trans (d8.below.mono B1.out.size)
    have cu8 := Kd.e d8
    have bw8 := Kd.f d8
    have r_res8 : Hid (W8.heap[w.heap.size]? = some (.cells #[.int .i64 0, .string ⟨#[]⟩] 25 (0, 0))) := drawnRow r_res7.out d8 (by omega)
    have r_h8 : Hid (W8.heap[W4.heap.size]? = some (.cells #[.int .i64 hn, .string ⟨#[120]⟩] 25 (0, 0))) := drawnRow r_h7.out d8 (by omega)
    have c_res8 := Ke.c r_res8
    have c_h8 := Ke.c r_h8
    clear r_res7 c_res7 r_h7 c_h7
    clear cu7 bw7 d8
    obtain ⟨a8, c8, rfl⟩ := Od.slice o8
    have HDS := Ke.h hDS
    clear hDS
    have f_d8 : Hid (Odt W8 W7.heap.size W8.heap.size (.slice a8 R.length c8) R) := ⟨o8, Nat.le_refl _⟩
    clear o8
    go_wp2_with fail
    refine (once_any W1 W8 (W1.heap.size) _ xs 6 (by omega) (by omega) HSW.out hby hx bw8.out (Nat.le_refl _) cu8.out).mono ?_
    rintro e W9 ⟨b2, rfl, d9⟩
    have z9 := d9.apart.size
    have B9 : Hid (Below w.heap.size w W9) := B1.out.trans (d9.below.mono B1.out.size)
    have cu9 := Kd.e d9
    have bw9 := Kd.f d9
    have r_res9 : Hid (W9.heap[w.heap.size]? = some (.cells #[.int .i64 0, .string ⟨#[]⟩] 25 (0, 0))) := drawnRow r_res8.out d9 (by omega)
    have r_h9 : Hid (W9.heap[W4.heap.size]? = some (.cells #[.int .i64 hn, .string ⟨#[120]⟩] 25 (0, 0))) := drawnRow r_h8.out d9 (by omega)
    have f_d9 : Hid (Odt W9 W7.heap.size W8.heap.size (.slice a8 R.length c8) R) := Odt.drawn f_d8.out d9 (by omega)
    have c_res9 := Ke.c r_res9
    have c_h9 := Ke.c r_h9
    clear r_res8 c_res8 r_h8 c_h8
    clear cu8 bw8 d9 f_d8
    cases b2
    · go_wp2_with (first | (refine wpList_load_row rfl 25 _ rfl (W4.heap.size) rfl 25 (hc ⟨hn, ⟨#[120]⟩⟩) (0, 0) _ r_h9.out Tryz.underlying25 rfl (sizeH _) ?_) | (refine wpList_store_row rfl 25 _ _ rfl (w.heap.size) (hc ⟨hn, ⟨#[120]⟩⟩) rfl rfl 25 _ r_res9.out (sizeH _) rfl (oneH _) ?_))
      refine bodyPost_ret (res_row_tmp rfl _ _ (w.heap.size) 25 (hc ⟨hn, ⟨#[120]⟩⟩) (0, 0) _ rfl (setRow_heap _ _ _ _ _ (0, 0) r_res9.out) Tryz.underlying25 rfl (sizeH _)) rfl ⟨⟨hn, ⟨#[120]⟩⟩, .slice a8 R.length c8, R, rfl, ?_, ?_, below_setRow B9.out (by omega) _⟩
      · exact ⟨by first | exact hHz | (show (⟨#[120]⟩ : ByteArray).size ≤ 32; decide), by omega, HDS.out.all⟩
      · exact On.mono (On.keep (Odt.wide f_d9.out (Nat.le_refl _)) fun j h1 h2 => setRow_other _ _ _ _ (by omega)) (by omega) (by rw [size_setRow]; exact Nat.le_refl _)
    · go_wp2_with fail
      refine (need_any W1 W9 (W1.heap.size) _ xs HSW.out hby hx bw9.out (Nat.le_refl _) cu9.out).mono ?_
      rintro e W10 ⟨x, rfl, hDx, d10⟩
      have z10 := d10.apart.size
      have B10 : Hid (Below w.heap.size w W10) := B1.out.trans (d10.below.mono B1.out.size)
      have cu10 := Kd.e d10
      have bw10 := Kd.f d10
      have r_res10 : Hid (W10.heap[w.heap.size]? = some (.cells #[.int .i64 0, .string ⟨#[]⟩] 25 (0, 0))) := drawnRow r_res9.out d10 (by omega)
      have r_h10 : Hid (W10.heap[W4.heap.size]? = some (.cells #[.int .i64 hn, .string ⟨#[120]⟩] 25 (0, 0))) := drawnRow r_h9.out d10 (by omega)
      have f_d10 : Hid (Odt W10 W7.heap.size W8.heap.size (.slice a8 R.length c8) R) := Odt.drawn f_d9.out d10 (by omega)
      have c_res10 := Ke.c r_res10
      have c_h10 := Ke.c r_h10
      clear r_res9 c_res9 r_h9 c_h9
      clear cu9 bw9 d10 f_d9
      have HDX := Ke.h hDx
      clear hDx
      have k1 : R.length + 1 ≤ maxLen := by unfold maxLen; omega
      have k2 : (R.length + 1) * 56 ≤ 140737488355328 := by omega
      have k3 : ∀ ob, W7.heap.size ≤ (W10.alloc ob).heap.size := fun ob => by simp; omega
      have O2 : ∀ ob, On 5 (W10.alloc ob) W7.heap.size (W10.alloc ob).heap.size 47 (.slice a8 R.length c8) R.length (nds R) := fun ob => On.alloc (Odt.wide f_d10.out (Nat.le_refl _)) ob
      go_wp2_with (at_builtin; go_must (refine wpl_appn 5 (by omega) _ rfl (.tmp 19) (.tmp 22) 26 rfl 47 i0 (.agg #[.string ⟨#[]⟩, .int .i64 0, .int .i64 0, .int .i64 0, .string ⟨#[]⟩]) 56 Tryz.underlying26 hi hz0 hz1 hz2 rfl W7.heap.size _ R.length (nds R) rfl (O2 _) _ rfl 1 x.cs (Sn.one 5 W10 (nc x) 47 rfl) (cs_oneN x) k1 k2 (k3 _) ?_))
      intro v0 W11 o0 b0 _
      have bb0 : Below W7.heap.size W10 W11 := ((Below.refl _ _).alloc (by omega) _).trans b0
      have r_h11 := Ke.h (rowLow r_h10.out bb0 (by omega))
      have r_res11 := Ke.h (rowLow r_res10.out bb0 (by omega))
      have B11 : Hid (Below w.heap.size w W11) := B10.out.trans (bb0.mono (by have := B10.out.size; omega))
      obtain ⟨a0, c0, rfl⟩ := on_slice5 o0
      have HO : Hid (Od W11 W7.heap.size W11.heap.size (.slice a0 (R.length + 1) c0) (R ++ [x])) := Od.snoc o0
      have z11 := bb0.size
      clear O2 o0 b0
      go_wp2_with (first | (refine wpList_load_row rfl 25 _ rfl (W4.heap.size) rfl 25 (hc ⟨hn, ⟨#[120]⟩⟩) (0, 0) _ r_h11.out Tryz.underlying25 rfl (sizeH _) ?_) | (refine wpList_store_row rfl 25 _ _ rfl (w.heap.size) (hc ⟨hn, ⟨#[120]⟩⟩) rfl rfl 25 _ r_res11.out (sizeH _) rfl (oneH _) ?_))
      refine bodyPost_ret (res_row_tmp rfl _ _ (w.heap.size) 25 (hc ⟨hn, ⟨#[120]⟩⟩) (0, 0) _ rfl (setRow_heap _ _ _ _ _ (0, 0) r_res11.out) Tryz.underlying25 rfl (sizeH _)) rfl ⟨⟨hn, ⟨#[120]⟩⟩, .slice a0 (R.length + 1) c0, R ++ [x], rfl, ?_, ?_, below_setRow B11.out (by omega) _⟩
      · exact ⟨by first | exact hHz | (show (⟨#[120]⟩ : ByteArray).size ≤ 32; decide), by simp; omega, fun n hn => by rcases List.mem_append.1 hn with h9 | h9; exact HDS.out.all n h9; rw [List.mem_singleton.1 h9]; exact HDX.out⟩
      · exact On.mono (On.keep HO.out fun j h1 h2 => setRow_other _ _ _ _ (by omega)) (by omega) (by rw [size_setRow]; exact Nat.le_refl _)

end Go.Proofs.YtbopliahafkecaaGreatDoor.Lk

/- Chapter 5, draws: an entry. -/
namespace Go.Proofs.YtbopliahafkecaaGreatDoor.Ent
open Go.RowKit Go.Proofs.YtbopliahafkecaaGreatDoor.Mem Go.Proofs.YtbopliahafkecaaGreatDoor.Laws Go.Proofs.YtbopliahafkecaaGreatDoor.Bytes Go.Proofs.YtbopliahafkecaaGreatDoor.Sha Go.Proofs.YtbopliahafkecaaGreatDoor.Ver Go.Proofs.YtbopliahafkecaaGreatDoor.Mod Go.Proofs.YtbopliahafkecaaGreatDoor.Draw
set_option linter.unusedVariables false
set_option linter.unusedSimpArgs false

theorem self5_ins {n x : Nd} {l : List Nd} (h : self5 n l = false) (hx : eqT x.path n.path = false) : self5 n (insN l x) = false := by
  unfold self5 at h ⊢
  rw [List.any_eq_false] at h ⊢
  intro y hy
  rcases ins_mem hy with rfl | hy
  · simp [hx]
  · exact h y hy
theorem srt_nil : Srt [] := ⟨fun x hx => (by cases hx), List.Pairwise.nil⟩
theorem Od.apart {w w' : World} {lo hi g : Nat} {v : Value} {l : List Nd} (h : Od w lo hi v l) (ha : Apart g (g + 1) w w') (hg : g < lo) (hh : hi ≤ w.heap.size) : Od w' lo hi v l := On.apart h ha (.inr (by omega)) hh

/-- what a round of l5Entry holds -/
structure Et (W0 w : World) (g : Nat) (vb : Value) (xs : List Int) (ge lo : Nat) (W : World) (n : Nd) (v : Value) (l : List Nd) : Prop where
  od : Od W lo W.heap.size v l
  size : lo ≤ W.heap.size
  row : W.heap[ge]? = some (.cells (ec n v) 160 (0, 0))
  res : W.heap[w.heap.size]? = some (.cells (ec nil5 (.slice none 0 0)) 160 (0, 0))
  dr : Drawn W0 w g vb xs W
theorem Et.drawn {W0 w : World} {g : Nat} {vb : Value} {xs : List Int} {ge lo : Nat} {W W' : World} {n : Nd} {v : Value} {l : List Nd} (h : Et W0 w g vb xs ge lo W n v l) (hd : Drawn W0 W g vb xs W') (h1 : g < w.heap.size) (h2 : w.heap.size < ge) (h3 : ge < lo) : Et W0 w g vb xs ge lo W' n v l :=
  ⟨(Od.apart h.od hd.apart (by omega) (Nat.le_refl _)).mono (Nat.le_refl _) hd.apart.size, Nat.le_trans h.size hd.apart.size, rowApart h.row hd.apart (by omega), rowApart h.res hd.apart (by omega), h.dr.and hd⟩
theorem Et.later {W0 w : World} {g : Nat} {vb : Value} {xs : List Int} {ge lo : Nat} {W W' : World} {n : Nd} {v : Value} {l : List Nd} (h : Et W0 w g vb xs ge lo W n v l) (hb : Below W.heap.size W W') (hg : W0.heap.size ≤ g) (h1 : g < w.heap.size) (h2 : w.heap.size < ge) (h3 : ge < lo) : Et W0 w g vb xs ge lo W' n v l := by
  have := h.size
  exact ⟨On.grow h.od hb, Nat.le_trans h.size hb.size, rowKeep h.row hb, rowKeep h.res hb, h.dr.on hg h1 (hb.mono (by omega))⟩

end Go.Proofs.YtbopliahafkecaaGreatDoor.Ent
