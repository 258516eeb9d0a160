/- Texts in one: Ent8, Gets, GetT, Strs, GetTs. -/
import Derived.Test.YtljlcelbhlkmcabGreatDoorPk11
import Derived.Test.YtljlcelbhlkmcabGreatDoorPk12
import Derived.Test.YtljlcelbhlkmcabGreatDoorPk2
import Derived.Test.YtljlcelbhlkmcabGreatDoorPk3
import Derived.Test.YtljlcelbhlkmcabGreatDoorRows
import Derived.Test.YtljlcelbhlkmcabGreatDoorPk1
import Derived.WalkKit
import Derived.WalkSpells
import Derived.WalkLawsBesides
import Derived.Deep.QuietTactic
import Derived.BigQuiet
import Derived.Deep.RegionWith
/- Chapter 5, the specification's side: an entry's text. -/
namespace Go.Proofs.YtljlcelbhlkmcabGreatDoor.Ent
open Go.RowKit Go.Proofs.YtljlcelbhlkmcabGreatDoor.Mem Go.Proofs.YtljlcelbhlkmcabGreatDoor.Laws Go.Proofs.YtljlcelbhlkmcabGreatDoor.Bytes Go.Proofs.YtljlcelbhlkmcabGreatDoor.Sha Go.Proofs.YtljlcelbhlkmcabGreatDoor.Ver Go.Proofs.YtljlcelbhlkmcabGreatDoor.Mod
set_option linter.unusedVariables false
set_option linter.unusedSimpArgs false

/-- an entry's text -/
def put5 (n : Nd) (l : List Nd) : ByteArray := if entry5 n l = true then Plain.txt (Puts.tx (name5 n) ++ Puts.num (l.length : Int) ++ Puts.txs (l.map name5)) else ⟨#[]⟩

theorem name5_size {n : Nd} : (name5 n).size ≤ n.path.size + n.pre.size + 100 := by
  unfold name5
  split
  · rw [ByteArray.size_append, ByteArray.size_append, txt_sizev]
    have h1 : (⟨#[64]⟩ : ByteArray).size = 1 := rfl
    have : (verText n.a n.b n.c n.pre).length ≤ n.pre.size + 50 := by
      unfold verText vt
      split
      · have h6 : ∀ m, (digF 6 m).length ≤ 7 := fun m => (digF_len 6 m).2
        have := h6 n.a.toNat
        have := h6 n.b.toNat
        have := h6 n.c.toNat
        split <;> simp [sb_len] <;> omega
      · simp
    omega
  · exact Nat.zero_le _
theorem txs_byt5 : ∀ l : List ByteArray, Byt (Puts.txs l) := by
  intro l
  induction l with
  | nil => intro x hx; cases hx
  | cons s r ih => exact (Puts.tx_byt s).app ih
theorem keepB {W W' : World} {p : Addr} {x : Value} {B : Nat} (h : W.cell? p = some x) (b : Below B W W') (hp : p.block < B) : W'.cell? p = some x := (b.cell hp).trans h
theorem tot_name (l : List Nd) (h : ∀ x ∈ l, x.path.size ≤ 1048576 ∧ x.pre.size ≤ 1048576) : Puts.tot (l.map name5) ≤ l.length * 2100000 := by
  induction l with
  | nil => simp [Puts.tot]
  | cons x r ih =>
    have h1 := h x (by simp)
    have h2 := name5_size (n := x)
    have h3 := ih (fun y hy => h y (by simp [hy]))
    simp only [List.map_cons, Puts.tot, List.length_cons]
    omega

set_option maxRecDepth 1000000 in
set_option maxHeartbeats 4000000 in
theorem put_spec5 (w : World) (n : Nd) (v : Value) (l : List Nd) (h : Sd w v l) (hl : l.length ≤ 1048576) (hp : n.path.size ≤ 1048576) (hq : n.pre.size ≤ 1048576) (hz : ∀ n ∈ l, n.path.size ≤ 1048576 ∧ n.pre.size ≤ 1048576) :
    Calls Tryz.prog 36 #[.agg #[.string n.path, .int .i64 n.a, .int .i64 n.b, .int .i64 n.c, .string n.pre, v]] w fun e w' => e = .returned (.string (put5 n l)) ∧ Below w.heap.size w w' := by
  obtain ⟨i0, hi, hz0, hz1, hz2⟩ := info_parts info9v
  have HD : Hid (put5 n l = if entry5 n l = true then Plain.txt (Puts.tx (name5 n) ++ Puts.num (l.length : Int) ++ Puts.txs (l.map name5)) else ⟨#[]⟩) := rfl
  have HB : Hid (Below w.heap.size w (w.alloc (.cells #[.string n.path, .int .i64 n.a, .int .i64 n.b, .int .i64 n.c, .string n.pre, v] 28))) := (Below.refl _ _).alloc (Nat.le_refl _) _
  have HR : Hid ((w.alloc (.cells #[.string n.path, .int .i64 n.a, .int .i64 n.b, .int .i64 n.c, .string n.pre, v] 28)).heap[w.heap.size]? = some (.cells (ec n v) 28 (0, 0))) := heap_alloc_new w _
  have q0 := entryok_spec (w.alloc (.cells #[.string n.path, .int .i64 n.a, .int .i64 n.b, .int .i64 n.c, .string n.pre, v] 28)) n v l (h.later HB.out) (by omega) (by omega) (by omega) (fun x hx => by have := hz x hx; omega)
  have HS : Hid (Sd w v l) := h
  have HZ : Hid (∀ n ∈ l, n.path.size ≤ 1048576 ∧ n.pre.size ≤ 1048576) := hz
  have HT := tot_name l hz
  obtain ⟨hcl, ao, cap, rfl, hcap, hnn, _⟩ := h
  clear hz
  obtain ⟨ok, hok⟩ : ∃ ok, entry5 n l = ok := ⟨_, rfl⟩
  rw [hok] at q0 HD
  have HOK : Hid (entry5 n l = ok) := hok
  clear hok
  go_enter Tryz.func36, Tryz.ntmps36
  go_wp2_with fail
  refine q0.mono ?_
  rintro e w1 ⟨rfl, b1⟩
  have r1 := rowKeep HR.out b1
  have hB1 : Below w.heap.size w w1 := HB.out.trans (b1.mono HB.out.size)
  clear q0 HR HB b1
  cases ok
  · have HN : Hid (put5 n l = ⟨#[]⟩) := HD.out
    go_wp2
    go_ret
    exact ⟨by rw [HN.out]; rfl, hB1⟩
  have HN : Hid (put5 n l = Plain.txt (Puts.tx (name5 n) ++ Puts.num (l.length : Int) ++ Puts.txs (l.map name5))) := HD.out
  clear HD
  have hlt1 : w.heap.size < w1.heap.size := (Array.getElem?_eq_some_iff.1 r1).1
  have HO0 : Hid (Own (w1.alloc (.cells #[] 9)) w1.heap.size (w1.alloc (.cells #[] 9)).heap.size 9 (.slice (some ⟨w1.heap.size, 0, none⟩) 0 0) (ss [])) := emptySv w1 _ (Nat.le_refl _)
  have HR1 : Hid ((w1.alloc (.cells #[] 9)).heap[w.heap.size]? = some (.cells (ec n (.slice ao l.length cap)) 28 (0, 0))) := rowKeep r1 ((Below.refl _ _).alloc (Nat.le_refl _) _)
  have HB1 : Hid (Below w.heap.size w (w1.alloc (.cells #[] 9))) := hB1.alloc hB1.size _
  clear r1 hB1
  go_wp2
  go_loopw [3, 4] (fun vn i wr => ∃ k : Nat, k ≤ l.length ∧ i = .int .i64 (k : Int) ∧ w1.heap.size ≤ wr.heap.size ∧ Own wr w1.heap.size wr.heap.size 9 vn (ss ((l.take k).map name5)) ∧ wr.heap[w.heap.size]? = some (.cells (ec n (.slice ao l.length cap)) 28 (0, 0)) ∧ Below w.heap.size w wr) (fun _ i _ => l.length - (intOf i).toNat)
  case atStart => exact ⟨0, Nat.zero_le _, rfl, by simp, HO0.out, HR1.out, HB1.out⟩
  case round =>
    obtain ⟨k, hk, rfl, hs1, ho, hR, hB⟩ := hrel
    clear HO0 HR1 HB1
    have k5 : wr.cell? ⟨w.heap.size, 5, none⟩ = some (.slice ao l.length cap) := row_cells hR 5
    by_cases hlt : k < l.length
    · obtain ⟨x, hn⟩ : ∃ n, l[k]? = some n := ⟨l[k], by simp [hlt]⟩
      obtain ⟨b, off, cap', he, _, c0, c1, c2, c3, c4⟩ := Sd.at (HS.out.later hB) hn
      have hbl : b < w.heap.size := by
        obtain ⟨b', off', _, he', _, c0', _⟩ := Sd.at HS.out hn
        simp only [Value.slice.injEq] at he he'
        obtain ⟨rfl, _, rfl⟩ := he
        simp only [Option.some.injEq, Addr.mk.injEq] at he'
        obtain ⟨⟨rfl, rfl, _⟩, _⟩ := he'
        exact World.block_lt_of_cell? w _ c0'
      simp only [Value.slice.injEq] at he
      obtain ⟨rfl, _, rfl⟩ := he
      have hxz := HZ.out x (List.mem_of_getElem? hn)
      have q1 : ∀ W, _ := fun W => name_spec W x (by omega) (by omega)
      have HTk : Hid (l.take (k + 1) = l.take k ++ [x]) := by show _ = _; rw [List.take_add_one, hn]; rfl
      have HRr : Hid (wr.heap[w.heap.size]? = some (.cells (ec n (.slice (some ⟨b, off, none⟩) l.length cap)) 28 (0, 0))) := hR
      have hln : ((l.take k).map name5).length = k := by simp; omega
      have c6 : (ss ((l.take k).map name5)).length + 1 ≤ maxLen := by rw [ss_len, hln]; unfold maxLen; omega
      have c7 : ((ss ((l.take k).map name5)).length + 1) * 16 ≤ 140737488355328 := by rw [ss_len, hln]; omega
      clear hn hR hln
      go_wp2_with fail
      refine wp_region_held_drew (S := fun w' => w'.cell? ⟨w.heap.size, 5, none⟩ = some (.slice (some ⟨b, off, none⟩) l.length cap) ∧ w'.cell? ⟨b, off + k * 5, none⟩ = some (.string x.path) ∧ w'.cell? ⟨b, off + k * 5 + 1, none⟩ = some (.int .i64 x.a) ∧ w'.cell? ⟨b, off + k * 5 + 2, none⟩ = some (.int .i64 x.b) ∧ w'.cell? ⟨b, off + k * 5 + 3, none⟩ = some (.int .i64 x.c) ∧ w'.cell? ⟨b, off + k * 5 + 4, none⟩ = some (.string x.pre)) (by kernel_rfl) ⟨k5, c0, c1, c2, c3, c4⟩ (fun hHeld => ?_)
      (refine wpAnyH_take (i := 0) (v := ?v0x1) rfl (by kernel_rfl) (by kernel_rfl) (by kernel_rfl) (fun _ _ _ h => h) (Or.inl ⟨by rfl, ?hy0x1⟩) (by assumption) ?rest0x1; case hy0x1 => (intro w hSw; (try dsimp only at hSw); go_split_ands; go_simp; (try with_reducible rfl)))
      try simp only [Act.put, List.setIfInBounds_toArray, List.set_cons_zero, List.set_cons_succ, List.getElem_toArray, List.getElem_cons_zero, List.getElem_cons_succ]
      (refine wpAnyH_take (i := 1) (v := ?v1x2) rfl (by kernel_rfl) (by kernel_rfl) (by kernel_rfl) (fun _ _ _ h => h) (Or.inl ⟨by rfl, ?hy1x2⟩) (by assumption) ?rest1x2; case hy1x2 => (intro w hSw; (try dsimp only at hSw); go_split_ands; go_simp; (try with_reducible rfl)))
      try simp only [Act.put, List.setIfInBounds_toArray, List.set_cons_zero, List.set_cons_succ, List.getElem_toArray, List.getElem_cons_zero, List.getElem_cons_succ]
      (refine wpAnyH_take (i := 2) (v := ?v2x3) rfl (by kernel_rfl) (by kernel_rfl) (by kernel_rfl) (fun _ _ _ h => h) (Or.inl ⟨by rfl, ?hy2x3⟩) (by assumption) ?rest2x3; case hy2x3 => (intro w hSw; (try dsimp only at hSw); go_split_ands; go_simp; (try with_reducible rfl)))
      try simp only [Act.put, List.setIfInBounds_toArray, List.set_cons_zero, List.set_cons_succ, List.getElem_toArray, List.getElem_cons_zero, List.getElem_cons_succ]
      (refine wpAnyH_take (i := 3) (v := ?v3x4) rfl (by kernel_rfl) (by kernel_rfl) (by kernel_rfl) (fun _ _ _ h => h) (Or.inl ⟨by rfl, ?hy3x4⟩) (by assumption) ?rest3x4; case hy3x4 => (intro w hSw; (try dsimp only at hSw); go_split_ands; go_simp; (try with_reducible rfl)))
      try simp only [Act.put, List.setIfInBounds_toArray, List.set_cons_zero, List.set_cons_succ, List.getElem_toArray, List.getElem_cons_zero, List.getElem_cons_succ]
      (refine wpAnyH_take (i := 4) (v := ?v4x5) rfl (by kernel_rfl) (by kernel_rfl) (by kernel_rfl) (fun _ _ _ h => h) (Or.inl ⟨by rfl, ?hy4x5⟩) (by assumption) ?rest4x5; case hy4x5 => (intro w hSw; (try dsimp only at hSw); go_split_ands; go_simp; (try with_reducible rfl)))
      try simp only [Act.put, List.setIfInBounds_toArray, List.set_cons_zero, List.set_cons_succ, List.getElem_toArray, List.getElem_cons_zero, List.getElem_cons_succ]
      (refine wpAnyH_take (i := 5) (v := ?v5x6) rfl (by kernel_rfl) (by kernel_rfl) (by kernel_rfl) (fun _ _ _ h => h) (Or.inl ⟨by rfl, ?hy5x6⟩) (by assumption) ?rest5x6; case hy5x6 => (intro w hSw; (try dsimp only at hSw); go_split_ands; go_simp; (try with_reducible rfl)))
      try simp only [Act.put, List.setIfInBounds_toArray, List.set_cons_zero, List.set_cons_succ, List.getElem_toArray, List.getElem_cons_zero, List.getElem_cons_succ]
      (refine wpAnyH_take (i := 6) (v := ?v6x7) rfl (by kernel_rfl) (by kernel_rfl) (by kernel_rfl) (fun _ _ _ h => h) (Or.inl ⟨by rfl, ?hy6x7⟩) (by assumption) ?rest6x7; case hy6x7 => (intro w hSw; (try dsimp only at hSw); go_split_ands; go_simp; (try with_reducible rfl)))
      try simp only [Act.put, List.setIfInBounds_toArray, List.set_cons_zero, List.set_cons_succ, List.getElem_toArray, List.getElem_cons_zero, List.getElem_cons_succ]
      (refine wpAnyH_take (i := 7) (v := ?v7x8) rfl (by kernel_rfl) (by kernel_rfl) (by kernel_rfl) (fun _ _ _ h => h) (Or.inl ⟨by rfl, ?hy7x8⟩) (by assumption) ?rest7x8; case hy7x8 => (intro w hSw; (try dsimp only at hSw); go_split_ands; go_simp; (try with_reducible rfl)))
      try simp only [Act.put, List.setIfInBounds_toArray, List.set_cons_zero, List.set_cons_succ, List.getElem_toArray, List.getElem_cons_zero, List.getElem_cons_succ]
      (refine wpAnyH_take (i := 8) (v := ?v8x9) rfl (by kernel_rfl) (by kernel_rfl) (by kernel_rfl) (fun _ _ _ h => h) (Or.inl ⟨by rfl, ?hy8x9⟩) (by assumption) ?rest8x9; case hy8x9 => (intro w hSw; (try dsimp only at hSw); go_split_ands; go_simp; (try with_reducible rfl)))
      try simp only [Act.put, List.setIfInBounds_toArray, List.set_cons_zero, List.set_cons_succ, List.getElem_toArray, List.getElem_cons_zero, List.getElem_cons_succ]
      (refine wpAnyH_take (i := 9) (v := ?v9x10) rfl (by kernel_rfl) (by kernel_rfl) (by kernel_rfl) (fun _ _ _ h => h) (Or.inl ⟨by rfl, ?hy9x10⟩) (by assumption) ?rest9x10; case hy9x10 => (intro w hSw; (try dsimp only at hSw); go_split_ands; go_simp; (try with_reducible rfl)))
      try simp only [Act.put, List.setIfInBounds_toArray, List.set_cons_zero, List.set_cons_succ, List.getElem_toArray, List.getElem_cons_zero, List.getElem_cons_succ]
      (refine wpAnyH_take (i := 10) (v := ?v10x11) rfl (by kernel_rfl) (by kernel_rfl) (by kernel_rfl) (fun _ _ _ h => h) (Or.inl ⟨by rfl, ?hy10x11⟩) (by assumption) ?rest10x11; case hy10x11 => (intro w hSw; (try dsimp only at hSw); go_split_ands; go_simp; (try with_reducible rfl)))
      try simp only [Act.put, List.setIfInBounds_toArray, List.set_cons_zero, List.set_cons_succ, List.getElem_toArray, List.getElem_cons_zero, List.getElem_cons_succ]
      (refine wpAnyH_take (i := 11) (v := ?v11x12) rfl (by kernel_rfl) (by kernel_rfl) (by kernel_rfl) (fun _ _ _ h => h) (Or.inl ⟨by rfl, ?hy11x12⟩) (by assumption) ?rest11x12; case hy11x12 => (intro w hSw; (try dsimp only at hSw); go_split_ands; go_simp; (try with_reducible rfl)))
      try simp only [Act.put, List.setIfInBounds_toArray, List.set_cons_zero, List.set_cons_succ, List.getElem_toArray, List.getElem_cons_zero, List.getElem_cons_succ]
      (refine wpAnyH_take (i := 12) (v := ?v12x13) rfl (by kernel_rfl) (by kernel_rfl) (by kernel_rfl) (fun _ _ _ h => h) (Or.inl ⟨by rfl, ?hy12x13⟩) (by assumption) ?rest12x13; case hy12x13 => (intro w hSw; (try dsimp only at hSw); go_split_ands; go_simp; (try with_reducible rfl)))
      try simp only [Act.put, List.setIfInBounds_toArray, List.set_cons_zero, List.set_cons_succ, List.getElem_toArray, List.getElem_cons_zero, List.getElem_cons_succ]
      refine wpAnyH_ready (rs := [13]) (by kernel_rfl) (by simp) ?_
      refine AllReadyH.cons rfl (fun K hK => ?_) AllReadyH.nil
      go_simp
      refine (q1 _).mono ?_
      rintro e w4 ⟨rfl, b4⟩
      refine hK.out _ _ ?_ (fun hHeld => ?_)
      · obtain ⟨s0, s1, s2, s3, s4, s5⟩ := hHeld; exact ⟨Ver.keepCell s0 b4, Ver.keepCell s1 b4, Ver.keepCell s2 b4, Ver.keepCell s3 b4, Ver.keepCell s4 b4, Ver.keepCell s5 b4⟩
      clear hK K
      try simp only [Act.put, List.setIfInBounds_toArray, List.set_cons_zero, List.set_cons_succ, List.getElem_toArray, List.getElem_cons_zero, List.getElem_cons_succ]
      have ho4 : ∀ o, Own (w4.alloc o) w1.heap.size (w4.alloc o).heap.size 9 _ (ss ((l.take k).map name5)) := fun o => Own.alloc (((show Own wr.drew w1.heap.size wr.drew.heap.size 9 _ (ss ((l.take k).map name5)) from ho).later b4 (Nat.le_refl _)).mono (Nat.le_refl _) b4.size) o
      have c8 : ∀ o, w1.heap.size ≤ (w4.alloc o).heap.size := fun o => by have := b4.size; simp; have h9 : wr.drew.heap.size = wr.heap.size := rfl; omega
      refine wpAnyH_ready (rs := [14]) (by kernel_rfl) (by simp) ?_
      refine AllReadyH.cons rfl (fun K hK => ?_) AllReadyH.nil
      go_simp
      refine hK.out _ _ ?_ (fun hHeld => ?_)
      · obtain ⟨s0, s1, s2, s3, s4, s5⟩ := hHeld; exact ⟨Ver.keepCell s0 ((Below.refl _ _).alloc (Nat.le_refl _) _), Ver.keepCell s1 ((Below.refl _ _).alloc (Nat.le_refl _) _), Ver.keepCell s2 ((Below.refl _ _).alloc (Nat.le_refl _) _), Ver.keepCell s3 ((Below.refl _ _).alloc (Nat.le_refl _) _), Ver.keepCell s4 ((Below.refl _ _).alloc (Nat.le_refl _) _), Ver.keepCell s5 ((Below.refl _ _).alloc (Nat.le_refl _) _)⟩
      clear hK K
      try simp only [Act.put, List.setIfInBounds_toArray, List.set_cons_zero, List.set_cons_succ, List.getElem_toArray, List.getElem_cons_zero, List.getElem_cons_succ]
      refine wpAnyH_ready (rs := [15]) (by kernel_rfl) (by simp) ?_
      refine AllReadyH.cons rfl (fun K hK => ?_) AllReadyH.nil
      refine step_app (by rfl) (.tmp 16) (.tmp 30) 46 (by rfl) 9 i0 (.string ⟨#[]⟩) 16 Tryz.underlying46 hi hz0 hz1 hz2 rfl w1.heap.size _ _ (by rfl) (ho4 _) _ (by rfl) _ (Laws.Sl.one w4 _ _) (one_strv _) c6 c7 (c8 _) ?_
      intro v5 w5 ho5 hb5
      refine hK.out _ _ ?_ (fun hHeld => ?_)
      · obtain ⟨s0, s1, s2, s3, s4, s5⟩ := hHeld; exact ⟨keepB s0 hb5 hlt1, keepB s1 hb5 (Nat.lt_trans hbl hlt1), keepB s2 hb5 (Nat.lt_trans hbl hlt1), keepB s3 hb5 (Nat.lt_trans hbl hlt1), keepB s4 hb5 (Nat.lt_trans hbl hlt1), keepB s5 hb5 (Nat.lt_trans hbl hlt1)⟩
      clear hK K
      try simp only [Act.put, List.setIfInBounds_toArray, List.set_cons_zero, List.set_cons_succ, List.getElem_toArray, List.getElem_cons_zero, List.getElem_cons_succ]
      (refine wpAnyH_take (i := 16) (v := ?v16x14) rfl (by kernel_rfl) (by kernel_rfl) (by kernel_rfl) (fun _ _ _ h => h) (Or.inl ⟨by rfl, ?hy16x14⟩) (by assumption) ?rest16x14; case hy16x14 => (intro w hSw; (try dsimp only at hSw); go_split_ands; go_simp; (try with_reducible rfl)))
      try simp only [Act.put, List.setIfInBounds_toArray, List.set_cons_zero, List.set_cons_succ, List.getElem_toArray, List.getElem_cons_zero, List.getElem_cons_succ]
      refine wpAnyH_done (by kernel_rfl) ?_ _
      have hBd : Below w.heap.size w wr.drew := Below.drew hB
      have hB4 : Below w.heap.size w w4 := hBd.trans (b4.mono hBd.size)
      have hB5 : Below w.heap.size w w5 := (hB4.alloc hB4.size _).trans (hb5.mono (by omega))
      have hR4 : w4.heap[w.heap.size]? = some (.cells (ec n (.slice (some ⟨b, off, none⟩) l.length cap)) 28 (0, 0)) := rowKeep (w := wr.drew) HRr.out b4
      have hR5 : w5.heap[w.heap.size]? = some (.cells (ec n (.slice (some ⟨b, off, none⟩) l.length cap)) 28 (0, 0)) := (hb5.block _ hlt1).trans (rowKeep hR4 ((Below.refl _ _).alloc (Nat.le_refl _) _))
      have ho6 : Own w5 w1.heap.size w5.heap.size 9 v5 (ss ((l.take (k + 1)).map name5)) := by rw [HTk.out, List.map_append, ss_app]; exact ho5
      have hs5 : w1.heap.size ≤ w5.heap.size := Nat.le_trans (Nat.le_trans hs1 b4.size) (Nat.le_trans (by simp) hb5.size)
      clear hHeld ho ho4 ho5 hb5 b4 hB hBd hB4 hR4 HRr c0 c1 c2 c3 c4 c6 c7 c8 k5 q1
      go_wp2
      go_roundw
      case rel => exact ⟨k + 1, by omega, by go_num, hs5, ho6, hR5, hB5⟩
      case measure => simp [intOf]; omega
    · have ho7 := ho
      rw [List.take_of_length_le (show l.length ≤ k by omega)] at ho7
      have k0 : wr.cell? ⟨w.heap.size, 0, none⟩ = some (.string n.path) := row_cells hR 0
      have k1 : wr.cell? ⟨w.heap.size, 1, none⟩ = some (.int .i64 n.a) := row_cells hR 1
      have k2 : wr.cell? ⟨w.heap.size, 2, none⟩ = some (.int .i64 n.b) := row_cells hR 2
      have k3 : wr.cell? ⟨w.heap.size, 3, none⟩ = some (.int .i64 n.c) := row_cells hR 3
      have k4 : wr.cell? ⟨w.heap.size, 4, none⟩ = some (.string n.pre) := row_cells hR 4
      have HO7 : Hid _ := ho7
      clear ho ho7 hR
      have hlw : w.heap.size < wr.heap.size := World.block_lt_of_cell? wr _ k0
      have e0 := Ver.keepCell k0 ((Below.refl _ _).alloc (Nat.le_refl _) (.cells #[] 5))
      have e1 := Ver.keepCell k1 ((Below.refl _ _).alloc (Nat.le_refl _) (.cells #[] 5))
      have e2 := Ver.keepCell k2 ((Below.refl _ _).alloc (Nat.le_refl _) (.cells #[] 5))
      have e3 := Ver.keepCell k3 ((Below.refl _ _).alloc (Nat.le_refl _) (.cells #[] 5))
      have e4 := Ver.keepCell k4 ((Below.refl _ _).alloc (Nat.le_refl _) (.cells #[] 5))
      have HB6 : Hid (Below w.heap.size w (wr.alloc (.cells #[] 5))) := hB.alloc hB.size _
      have HB0 : Hid (Below wr.heap.size wr (wr.alloc (.cells #[] 5))) := (Below.refl _ _).alloc (Nat.le_refl _) _
      have HE0 : Hid (Sl (wr.alloc (.cells #[] 5)) (.slice (some ⟨wr.heap.size, 0, none⟩) 0 0) (bs [])) := (Puts.Own.empty wr wr.heap.size (Nat.le_refl _)).sl
      have hnz := name5_size (n := n)
      have q2 := name_spec (wr.alloc (.cells #[] 5)) n (by omega) (by omega)
      have HL : Hid ((Puts.txs (l.map name5)).length ≤ 5 * l.length + l.length * 2100000) := by
        have := Puts.txs_len (l.map name5)
        rw [List.length_map] at this
        show _ ≤ _
        omega
      clear k0 k1 k2 k3 k4
      go_wp2_with fail
      refine q2.mono ?_
      rintro e w6 ⟨rfl, b6⟩
      have q3 := Puts.putt_spec w6 (.slice (some ⟨wr.heap.size, 0, none⟩) 0 0) [] (name5 n) (HE0.out.later b6) (by simp) (by omega)
      have hB6 : Below w.heap.size w w6 := HB6.out.trans (b6.mono HB6.out.size)
      have s6 : Sl w6 _ (ss (l.map name5)) := ((Mem.Own.sl HO7.out).later HB0.out).later b6
      have HS6 : Hid _ := s6
      clear e0 e1 e2 e3 e4 q2 b6 HB6 HB0 HE0 s6 HO7
      go_wp2_with fail
      refine q3.mono ?_
      rintro e w7 ⟨v7, rfl, o7, b7⟩
      have hB7 : Below w.heap.size w w7 := hB6.trans (b7.mono hB6.size)
      have htx := Puts.tx_len (name5 n)
      have q4 := Puts.putts_spec w7 v7 _ ([] ++ Puts.tx (name5 n)) (l.map name5) o7.sl (Mem.Sl.later HS6.out b7) (by have := HL.out; simp; omega) (by simp; omega)
      clear q3 o7 b7 hB6 HS6
      go_wp2_with fail
      refine q4.mono ?_
      rintro e w8 ⟨v8, rfl, o8, b8⟩
      have hB8 : Below w.heap.size w w8 := hB7.trans (b8.mono hB7.size)
      rw [List.nil_append, List.length_map] at o8
      have hcv := conv_sl (w := w8) o8.sl (((Puts.tx_byt _).app (Puts.num_byt _)).app (txs_byt5 _))
      go_wp2
      go_ret
      exact ⟨by rw [HN.out, List.append_assoc]; rfl, hB8⟩

end Go.Proofs.YtljlcelbhlkmcabGreatDoor.Ent

/- Contracts of GetNum, the program's and the specification's: both answer 'getNum' of the bytes, and turn nothing. -/
namespace Go.Proofs.YtljlcelbhlkmcabGreatDoor.Gets
open Go.RowKit Go.Proofs.YtljlcelbhlkmcabGreatDoor.Mem Go.Proofs.YtljlcelbhlkmcabGreatDoor.Plain
set_option linter.unusedVariables false

theorem ret3 {a a' b b' : Int} {c c' : Bool} (h1 : a = a') (h2 : b = b') (h3 : c = c') : Ending.returned (.tuple #[.int .i64 a, .int .i64 b, .bool c]) = .returned (.tuple #[.int .i64 a', .int .i64 b', .bool c']) := by rw [h1, h2, h3]

theorem getNum_out {xs : List Int} {at_ : Int} (h : at_ < 0 ∨ (xs.length : Int) ≤ at_) : getNum xs at_ = (0, 0, false) := by
  unfold getNum; rw [if_neg (by omega)]
theorem getNum_none {xs : List Int} {a : Nat} (ha : a < xs.length) (h : dec 0 0 1 (xs.drop a) = none) : getNum xs (a : Int) = (0, 0, false) := by
  unfold getNum; rw [if_pos (by omega)]; simp [h]
theorem getNum_some {xs : List Int} {a : Nat} {n : Int} {k : Nat} (ha : a < xs.length) (h : dec 0 0 1 (xs.drop a) = some (n, k)) : getNum xs (a : Int) = (n, (a : Int) + k, true) := by
  unfold getNum; rw [if_pos (by omega)]; simp [h]

theorem drop_at {xs : List Int} {a k : Nat} {c : Int} (h : xs[a + k]? = some c) : xs.drop (a + k) = c :: xs.drop (a + (k + 1)) := by
  obtain ⟨hk, rfl⟩ := List.getElem?_eq_some_iff.1 h
  rw [List.drop_eq_getElem_cons hk]; rfl

theorem dec_more {k : Nat} {N W c : Int} {r : List Int} (h5 : k ≠ 5) (hc : 128 ≤ c) : dec k N W (c :: r) = dec (k + 1) (N + c % 128 * W) (W * 128) r := by
  rw [dec, if_neg h5, if_pos hc]
theorem dec_five {N W c : Int} {r : List Int} : dec 5 N W (c :: r) = none := by rw [dec, if_pos rfl]
theorem dec_bad {k : Nat} {N W c : Int} {r : List Int} (h5 : k ≠ 5) (hc : c < 128) (hb : 1000000000 < N + c % 128 * W ∨ (0 < k ∧ c % 128 = 0)) : dec k N W (c :: r) = none := by
  rw [dec, if_neg h5, if_neg (by omega), if_pos hb]
theorem dec_good {k : Nat} {N W c : Int} {r : List Int} (h5 : k ≠ 5) (hc : c < 128) (hb : ¬ (1000000000 < N + c % 128 * W ∨ (0 < k ∧ c % 128 = 0))) : dec k N W (c :: r) = some (N + c % 128 * W, k + 1) := by
  rw [dec, if_neg h5, if_neg (by omega), if_neg hb]

theorem pow_bd {k : Nat} (hk : k < 5) : 1 ≤ (128 : Int) ^ k ∧ (128 : Int) ^ k ≤ 268435456 := by
  rcases (show k = 0 ∨ k = 1 ∨ k = 2 ∨ k = 3 ∨ k = 4 by omega) with rfl | rfl | rfl | rfl | rfl <;> decide
theorem prod_bd {c W : Int} (hW : 1 ≤ W) : 0 ≤ c % 128 * W ∧ c % 128 * W ≤ 127 * W :=
  ⟨Int.mul_nonneg (by omega) (by omega), Int.mul_le_mul_of_nonneg_right (by omega) (by omega)⟩

set_option maxHeartbeats 1000000 in
theorem get_impl (w : World) (v : Value) (xs : List Int) (at_ : Int) (h : Sl w v (bs xs)) (hb : Byt xs) (hx : xs.length ≤ 140737488355328) (hlo : -9223372036854775808 ≤ at_) (hhi : at_ ≤ 9223372036854775807) :
    Calls Tryz.prog 104 #[v, .int .i64 at_] w fun e w' => e = .returned (.tuple #[.int .i64 (getNum xs at_).1, .int .i64 (getNum xs at_).2.1, .bool (getNum xs at_).2.2]) ∧ w' = w := by
  obtain ⟨ao, cap, rfl, hc1, _, hr1⟩ := h
  rw [bs_len] at hr1 hc1
  rw [bs_len]
  by_cases h0 : at_ < 0
  · have HG : Hid (getNum xs at_ = (0, 0, false)) := getNum_out (.inl h0)
    go_enter Tryz.func104, Tryz.ntmps104
    go_wp2
    go_ret3
    exact ⟨by rw [HG.out]; rfl, rfl⟩
  by_cases h1 : (xs.length : Int) ≤ at_
  · have HG : Hid (getNum xs at_ = (0, 0, false)) := getNum_out (.inr h1)
    go_enter Tryz.func104, Tryz.ntmps104
    go_wp2
    go_ret3
    exact ⟨by rw [HG.out]; rfl, rfl⟩
  obtain ⟨a, rfl⟩ := Int.eq_ofNat_of_zero_le (show 0 ≤ at_ by omega)
  have ha : a < xs.length := by omega
  have hd0 : decide ((a : Int) < 0) = false := by simp
  obtain ⟨b, off, rfl, hcells⟩ := hr1 (by omega)
  clear h0 h1 hlo hhi
  go_enter Tryz.func104, Tryz.ntmps104
  go_wp2
  go_loop [7, 8, 24] (fun n wo i => ∃ (k : Nat) (N W : Int), k ≤ xs.length - a ∧ k ≤ 5 ∧ i = .int .i64 k ∧ n = .int .i64 N ∧ wo = .int .i64 W ∧ W = 128 ^ k ∧ 0 ≤ N ∧ N < W ∧ dec 0 0 1 (xs.drop a) = dec k N W (xs.drop (a + k))) (fun _ _ i => (xs.length - a) - (intOf i).toNat)
  case atStart => exact ⟨0, 0, 1, Nat.zero_le _, by omega, rfl, rfl, rfl, rfl, by omega, by omega, rfl⟩
  case round =>
    obtain ⟨k, N, W, hk, hk5, rfl, rfl, rfl, hW0, hN0, hN1, hD0⟩ := hrel
    have HD : Hid (W = 128 ^ k ∧ dec 0 0 1 (xs.drop a) = dec k N W (xs.drop (a + k))) := ⟨hW0, hD0⟩
    clear hD0 hW0
    by_cases hlt : k < xs.length - a
    · obtain ⟨c, hc0⟩ : ∃ c, xs[a + k]? = some c := ⟨xs[a + k]'(by omega), by simp⟩
      have hcell : w.cell? ⟨b, off + a + k, none⟩ = some (.int .u8 c) := by
        rw [Nat.add_assoc, hcells (a + k) (by omega), bs_get, hc0]; rfl
      have hby := hb.at hc0
      have HC : Hid (xs.drop (a + k) = c :: xs.drop (a + (k + 1))) := drop_at hc0
      clear hcells hc0 hb
      by_cases h5 : k = 5
      · have HR : Hid (getNum xs (a : Int) = (0, 0, false)) := getNum_none ha (by rw [HD.out.2, HC.out, h5]; exact dec_five)
        have h5' : ((k : Int) == 5) = true := by simp; omega
        clear HD HC h5
        go_wp2
        go_ret3
        exact ⟨by rw [HR.out]; rfl, rfl⟩
      have hWb : 1 ≤ W ∧ W ≤ 268435456 := by rw [HD.out.1]; exact pow_bd (by omega)
      have hpb := prod_bd (c := c) hWb.1
      have h5' : ((k : Int) == 5) = false := by simp; omega
      by_cases hge : 128 ≤ c
      · have HR : Hid (W * 128 = 128 ^ (k + 1) ∧ dec 0 0 1 (xs.drop a) = dec (k + 1) (N + c % 128 * W) (W * 128) (xs.drop (a + (k + 1)))) :=
          ⟨by rw [HD.out.1, Int.pow_succ], by rw [HD.out.2, HC.out, dec_more h5 hge]⟩
        clear HD HC
        go_wp2
        go_round
        case rel => exact ⟨k + 1, N + c % 128 * W, W * 128, by omega, by omega, by go_num, rfl, rfl, HR.out.1, by omega, by omega, HR.out.2⟩
        case measure => simp [intOf]; omega
      · have hlt8 : c < 128 := by omega
        by_cases hbig : 1000000000 < N + c % 128 * W
        · have HR : Hid (getNum xs (a : Int) = (0, 0, false)) := getNum_none ha (by rw [HD.out.2, HC.out]; exact dec_bad h5 hlt8 (.inl hbig))
          have hdec : decide (1000000000 < N + c % 128 * W) = true := by simpa using hbig
          clear HD HC
          go_wp2
          go_ret3
          exact ⟨by rw [HR.out]; rfl, rfl⟩
        · have hdec : decide (1000000000 < N + c % 128 * W) = false := by simpa using hbig
          by_cases hk0 : 0 < k
          · have hdk : decide ((0 : Int) < (k : Int)) = true := by simpa using hk0
            by_cases hz : c % 128 = 0
            · have HR : Hid (getNum xs (a : Int) = (0, 0, false)) := getNum_none ha (by rw [HD.out.2, HC.out]; exact dec_bad h5 hlt8 (.inr ⟨hk0, hz⟩))
              have hz' : (c % 128 == 0) = true := by simpa using hz
              clear HD HC hz
              go_wp2
              go_ret3
              exact ⟨by rw [HR.out]; rfl, rfl⟩
            · have HR : Hid (getNum xs (a : Int) = (N + c % 128 * W, (a : Int) + ((k + 1 : Nat) : Int), true)) := getNum_some ha (by rw [HD.out.2, HC.out]; exact dec_good h5 hlt8 (by omega))
              have hz' : (c % 128 == 0) = false := by simpa using hz
              clear HD HC hz
              go_wp2
              go_ret3
              exact ⟨by rw [HR.out]; exact ret3 rfl (by dsimp only; omega) rfl, rfl⟩
          · have hdk : decide ((0 : Int) < (k : Int)) = false := by simpa using hk0
            have HR : Hid (getNum xs (a : Int) = (N + c % 128 * W, (a : Int) + ((k + 1 : Nat) : Int), true)) := getNum_some ha (by rw [HD.out.2, HC.out]; exact dec_good h5 hlt8 (by omega))
            clear HD HC
            go_wp2
            go_ret3
            exact ⟨by rw [HR.out]; exact ret3 rfl (by dsimp only; omega) rfl, rfl⟩
    · have HR : Hid (getNum xs (a : Int) = (0, 0, false)) := getNum_none ha (by rw [HD.out.2, List.drop_eq_nil_of_le (by omega)]; rfl)
      clear HD
      go_wp2
      go_ret3
      exact ⟨by rw [HR.out]; rfl, rfl⟩

theorem and127b {c : Int} (h : 0 ≤ c ∧ c ≤ 255) : bits .and .i64 c 127 = c % 128 := and127 h.1 (by omega)

set_option maxHeartbeats 1000000 in
theorem get_spec (w : World) (v : Value) (xs : List Int) (at_ : Int) (h : Sl w v (bs xs)) (hb : Byt xs) (hx : xs.length ≤ 140737488355328) (hlo : -9223372036854775808 ≤ at_) (hhi : at_ ≤ 9223372036854775807) :
    Calls Tryz.prog 70 #[v, .int .i64 at_] w fun e w' => e = .returned (.tuple #[.int .i64 (getNum xs at_).1, .int .i64 (getNum xs at_).2.1, .bool (getNum xs at_).2.2]) ∧ w' = w := by
  obtain ⟨ao, cap, rfl, hc1, _, hr1⟩ := h
  rw [bs_len] at hr1 hc1
  rw [bs_len]
  by_cases h0 : at_ < 0
  · have HG : Hid (getNum xs at_ = (0, 0, false)) := getNum_out (.inl h0)
    have hd : decide (0 ≤ at_) = false := by simp; omega
    go_enter Tryz.func70, Tryz.ntmps70
    go_wp2
    refine wp_loop_rounds 1 ?_; rw [rounds_succ]
    go_wp2
    go_ret3
    exact ⟨by rw [HG.out]; rfl, rfl⟩
  by_cases h1 : (xs.length : Int) ≤ at_
  · have HG : Hid (getNum xs at_ = (0, 0, false)) := getNum_out (.inr h1)
    have hd : decide (0 ≤ at_) = true := by simp; omega
    have hd2 : decide (at_ < (xs.length : Int)) = false := by simp; omega
    go_enter Tryz.func70, Tryz.ntmps70
    go_wp2
    refine wp_loop_rounds 1 ?_; rw [rounds_succ]
    go_wp2
    go_ret3
    exact ⟨by rw [HG.out]; rfl, rfl⟩
  obtain ⟨a, rfl⟩ := Int.eq_ofNat_of_zero_le (show 0 ≤ at_ by omega)
  have ha : a < xs.length := by omega
  obtain ⟨b, off, rfl, hcells⟩ := hr1 (by omega)
  clear h0 h1 hlo hhi
  have hda : decide ((0 : Int) ≤ (a : Int)) = true := by simp
  have hdb : decide ((a : Int) < (xs.length : Int)) = true := by simp; omega
  go_enter Tryz.func70, Tryz.ntmps70
  go_wp2
  go_loop [7, 8] (fun n i => ∃ (k : Nat) (N W : Int), a + k ≤ xs.length ∧ k ≤ 5 ∧ i = .int .i64 k ∧ n = .int .i64 N ∧ W = 128 ^ k ∧ 0 ≤ N ∧ N < W ∧ dec 0 0 1 (xs.drop a) = dec k N W (xs.drop (a + k))) (fun _ i => 5 - (intOf i).toNat)
  case atStart => exact ⟨0, 0, 1, by omega, by omega, rfl, rfl, rfl, by omega, by omega, rfl⟩
  case round =>
    obtain ⟨k, N, W, hk, hk5, rfl, rfl, hW0, hN0, hN1, hD0⟩ := hrel
    have HD : Hid (W = 128 ^ k ∧ dec 0 0 1 (xs.drop a) = dec k N W (xs.drop (a + k))) := ⟨hW0, hD0⟩
    clear hD0 hW0
    by_cases h5 : k = 5
    · have h5' : decide ((k : Int) < 5) = false := by simp; omega
      have HR : Hid (getNum xs (a : Int) = (0, 0, false)) := by
        by_cases hlt : a + k < xs.length
        · exact getNum_none ha (by subst h5; rw [HD.out.2, List.drop_eq_getElem_cons hlt]; exact dec_five)
        · exact getNum_none ha (by rw [HD.out.2, List.drop_eq_nil_of_le (by omega)]; rfl)
      clear HD h5
      go_wp2
      go_ret3
      exact ⟨by rw [HR.out]; rfl, rfl⟩
    have h5' : decide ((k : Int) < 5) = true := by simp; omega
    by_cases hlt : a + k < xs.length
    · have hlt' : decide ((a : Int) + (k : Int) < (xs.length : Int)) = true := by simp; omega
      obtain ⟨c, hc0⟩ : ∃ c, xs[a + k]? = some c := ⟨xs[a + k]'(by omega), by simp⟩
      have hcell : w.cell? ⟨b, off + (a + k), none⟩ = some (.int .u8 c) := by
        rw [hcells (a + k) (by omega), bs_get, hc0]; rfl
      have hby := hb.at hc0
      have HC : Hid (xs.drop (a + k) = c :: xs.drop (a + (k + 1))) := drop_at hc0
      clear hcells hc0 hb
      have hWb : 1 ≤ W ∧ W ≤ 268435456 := by rw [HD.out.1]; exact pow_bd (by omega)
      have hpb := prod_bd (c := c) hWb.1
      have hmask := and127b hby
      have hor : bits .or .i64 N (wrap64 (c % 128 * 2 ^ (7 * k))) = N + c % 128 * W := by
        have e : (128 : Int) ^ k = 2 ^ (7 * k) := by rw [Int.pow_mul]; rfl
        have hw : wrap64 (c % 128 * 2 ^ (7 * k)) = c % 128 * 2 ^ (7 * k) := IntWalk.wrap64_in _ (by rw [← e, ← HD.out.1]; omega)
        rw [hw, HD.out.1]; exact or_join (by omega) hN0 (by rw [← HD.out.1]; exact hN1) (by omega) (by omega)
      by_cases hge : 127 < c
      · have HR : Hid (W * 128 = 128 ^ (k + 1) ∧ dec 0 0 1 (xs.drop a) = dec (k + 1) (N + c % 128 * W) (W * 128) (xs.drop (a + (k + 1)))) :=
          ⟨by rw [HD.out.1, Int.pow_succ], by rw [HD.out.2, HC.out, dec_more h5 (by omega)]⟩
        clear HD HC
        go_wp2
        go_round
        case rel => exact ⟨k + 1, N + c % 128 * W, W * 128, by omega, by omega, by go_num, rfl, HR.out.1, by omega, by omega, HR.out.2⟩
        case measure => simp [intOf]; omega
      · have hlt8 : c < 128 := by omega
        by_cases hk0 : 0 < k
        · have hdk : decide ((0 : Int) < (k : Int)) = true := by simpa using hk0
          by_cases hz : c = 0
          · have HR : Hid (getNum xs (a : Int) = (0, 0, false)) := getNum_none ha (by rw [HD.out.2, HC.out]; exact dec_bad h5 hlt8 (.inr ⟨hk0, by omega⟩))
            have hz' : (c == 0) = true := by simpa using hz
            clear HD HC hz
            go_wp2
            go_ret3
            exact ⟨by rw [HR.out]; rfl, rfl⟩
          · have hz' : (c == 0) = false := by simpa using hz
            by_cases hbig : 1000000000 < N + c % 128 * W
            · have HR : Hid (getNum xs (a : Int) = (0, 0, false)) := getNum_none ha (by rw [HD.out.2, HC.out]; exact dec_bad h5 hlt8 (.inl hbig))
              have hdec : decide (1000000000 < N + c % 128 * W) = true := by simpa using hbig
              clear HD HC hz
              go_wp2
              go_ret3
              exact ⟨by rw [HR.out]; rfl, rfl⟩
            · have HR : Hid (getNum xs (a : Int) = (N + c % 128 * W, (a : Int) + ((k + 1 : Nat) : Int), true)) := getNum_some ha (by rw [HD.out.2, HC.out]; exact dec_good h5 hlt8 (by omega))
              have hdec : decide (1000000000 < N + c % 128 * W) = false := by simpa using hbig
              clear HD HC hz
              go_wp2
              go_ret3
              exact ⟨by rw [HR.out]; exact ret3 rfl (by dsimp only; omega) rfl, rfl⟩
        · have hdk : decide ((0 : Int) < (k : Int)) = false := by simpa using hk0
          by_cases hbig : 1000000000 < N + c % 128 * W
          · have HR : Hid (getNum xs (a : Int) = (0, 0, false)) := getNum_none ha (by rw [HD.out.2, HC.out]; exact dec_bad h5 hlt8 (.inl hbig))
            have hdec : decide (1000000000 < N + c % 128 * W) = true := by simpa using hbig
            clear HD HC
            go_wp2
            go_ret3
            exact ⟨by rw [HR.out]; rfl, rfl⟩
          · have HR : Hid (getNum xs (a : Int) = (N + c % 128 * W, (a : Int) + ((k + 1 : Nat) : Int), true)) := getNum_some ha (by rw [HD.out.2, HC.out]; exact dec_good h5 hlt8 (by omega))
            have hdec : decide (1000000000 < N + c % 128 * W) = false := by simpa using hbig
            clear HD HC
            go_wp2
            go_ret3
            exact ⟨by rw [HR.out]; exact ret3 rfl (by dsimp only; omega) rfl, rfl⟩
    · have hlt' : decide ((a : Int) + (k : Int) < (xs.length : Int)) = false := by simp; omega
      have HR : Hid (getNum xs (a : Int) = (0, 0, false)) := getNum_none ha (by rw [HD.out.2, List.drop_eq_nil_of_le (by omega)]; rfl)
      clear HD
      go_wp2
      go_ret3
      exact ⟨by rw [HR.out]; rfl, rfl⟩

end Go.Proofs.YtljlcelbhlkmcabGreatDoor.Gets

/- Contracts of GetText, the program's and the specification's: both answer 'getText' of the bytes, and turn nothing. -/
namespace Go.Proofs.YtljlcelbhlkmcabGreatDoor.GetT
open Go.RowKit Go.Proofs.YtljlcelbhlkmcabGreatDoor.Mem Go.Proofs.YtljlcelbhlkmcabGreatDoor.Plain
set_option linter.unusedVariables false

theorem conv_none (ao : Option Addr) (c : Nat) (w : World) : (convert 22 9 (.slice ao 0 c)).run Tryz.prog w = .ok (.string ⟨#[]⟩) w := by
  cases ao with
  | none => rw [run_convert_bytes_string w 22 9 5 none 0 c Tryz.underlying22 Tryz.underlying5 Tryz.underlying9]; rfl
  | some a => exact run_convert_bytes_back w 22 9 5 a c [] Tryz.underlying22 Tryz.underlying5 Tryz.underlying9 (fun j hj => by simp at hj)

theorem conv_some {w : World} {xs : List Int} {b off p n c : Nat} (hb : Byt xs) (hcell : ∀ j, j < xs.length → w.cell? ⟨b, off + j, none⟩ = (bs xs)[j]?) (hn : p + n ≤ xs.length) :
    (convert 22 9 (.slice (some ⟨b, off + p, none⟩) n c)).run Tryz.prog w = .ok (.string (txt ((xs.drop p).take n))) w := by
  have hl : (u8s ((xs.drop p).take n)).length = n := by rw [u8s_len]; simp; omega
  have h := run_convert_bytes_back (P := Tryz.prog) w 22 9 5 ⟨b, off + p, none⟩ c (u8s ((xs.drop p).take n)) Tryz.underlying22 Tryz.underlying5 Tryz.underlying9 (fun j hj => by
    rw [hl] at hj
    rw [Addr.add_lit, Nat.add_assoc, hcell (p + j) (by omega), bs_get]
    have hx : xs[p + j]? = some (xs[p + j]'(by omega)) := by simp
    have hy := hb.at hx
    rw [hx]
    simp only [u8s, List.getElem_map, List.getElem_take, List.getElem_drop, Option.map_some]
    rw [u8_back hy])
  rw [hl] at h
  exact h

theorem rets {s s' : ByteArray} {b b' : Int} {c c' : Bool} (h1 : s = s') (h2 : b = b') (h3 : c = c') : Ending.returned (.tuple #[.string s, .int .i64 b, .bool c]) = .returned (.tuple #[.string s', .int .i64 b', .bool c']) := by rw [h1, h2, h3]

set_option maxRecDepth 1000000 in
set_option maxHeartbeats 1000000 in
theorem text_impl (w : World) (v : Value) (xs : List Int) (at_ : Int) (h : Sl w v (bs xs)) (hb : Byt xs) (hx : xs.length ≤ 140737488355328) (hlo : -9223372036854775808 ≤ at_) (hhi : at_ ≤ 9223372036854775807) :
    Calls Tryz.prog 84 #[v, .int .i64 at_] w fun e w' => e = .returned (.tuple #[.string (getText xs at_).1, .int .i64 (getText xs at_).2.1, .bool (getText xs at_).2.2]) ∧ w' = w := by
  have hget := Gets.get_impl w v xs at_ h hb hx hlo hhi
  obtain ⟨n, p, ok, hr⟩ : ∃ n p ok, getNum xs at_ = (n, p, ok) := ⟨_, _, _, rfl⟩
  rw [hr] at hget
  have HR : Hid (getNum xs at_ = (n, p, ok)) := hr
  clear hr
  obtain ⟨ao, cap, rfl, hc1, hnone, hr1⟩ := h
  rw [bs_len] at hr1 hc1 hget
  rw [bs_len]
  cases ok with
  | false =>
    have HG : Hid (getText xs at_ = (⟨#[]⟩, 0, false)) := getText_no HR.out (.inl rfl)
    go_enter Tryz.func84, Tryz.ntmps84
    go_wp2_with (go_at_call 104; refine hget.mono ?_; rintro e w' ⟨rfl, rfl⟩)
    go_ret3
    exact ⟨by rw [HG.out]; rfl, rfl⟩
  | true =>
    have hbd := getNum_bd HR.out
    obtain ⟨n, rfl⟩ := Int.eq_ofNat_of_zero_le hbd.1
    obtain ⟨p, rfl⟩ := Int.eq_ofNat_of_zero_le (show 0 ≤ p by omega)
    by_cases hbig : (xs.length : Int) - (p : Int) < (n : Int)
    · have HG : Hid (getText xs at_ = (⟨#[]⟩, 0, false)) := getText_no HR.out (.inr hbig)
      go_enter Tryz.func84, Tryz.ntmps84
      go_wp2_with (go_at_call 104; refine hget.mono ?_; rintro e w' ⟨rfl, rfl⟩)
      go_ret3
      exact ⟨by rw [HG.out]; rfl, rfl⟩
    · have HG : Hid (getText xs at_ = (txt ((xs.drop p).take n), (p : Int) + (n : Int), true)) := getText_yes HR.out (by omega)
      obtain ⟨b, off, rfl, hcell⟩ := hr1 (by omega)
      by_cases h0 : n = 0
      · subst h0
        have hconv : ∀ ao c w, (convert 22 9 (.slice ao 0 c)).run Tryz.prog w = .ok (.string ⟨#[]⟩) w := conv_none
        have HT : Hid (txt ((xs.drop p).take 0) = ⟨#[]⟩) := rfl
        clear hr1 hcell
        go_enter Tryz.func84, Tryz.ntmps84
        go_wp2_with (go_at_call 104; refine hget.mono ?_; rintro e w' ⟨rfl, rfl⟩)
        all_goals go_ret3
        all_goals exact ⟨by rw [HG.out]; exact rets rfl (by dsimp only; omega) rfl, rfl⟩
      · have hconv := conv_some (c := cap - p) hb hcell (show p + n ≤ xs.length by omega)
        clear hr1 hcell
        go_enter Tryz.func84, Tryz.ntmps84
        go_wp2_with (go_at_call 104; refine hget.mono ?_; rintro e w' ⟨rfl, rfl⟩)
        all_goals go_ret3
        all_goals exact ⟨by rw [HG.out]; exact rets rfl (by dsimp only) rfl, rfl⟩

set_option maxRecDepth 1000000 in
set_option maxHeartbeats 1000000 in
theorem text_spec (w : World) (v : Value) (xs : List Int) (at_ : Int) (h : Sl w v (bs xs)) (hb : Byt xs) (hx : xs.length ≤ 140737488355328) (hlo : -9223372036854775808 ≤ at_) (hhi : at_ ≤ 9223372036854775807) :
    Calls Tryz.prog 40 #[v, .int .i64 at_] w fun e w' => e = .returned (.tuple #[.string (getText xs at_).1, .int .i64 (getText xs at_).2.1, .bool (getText xs at_).2.2]) ∧ w' = w := by
  have hget := Gets.get_spec w v xs at_ h hb hx hlo hhi
  obtain ⟨n, p, ok, hr⟩ : ∃ n p ok, getNum xs at_ = (n, p, ok) := ⟨_, _, _, rfl⟩
  rw [hr] at hget
  have HR : Hid (getNum xs at_ = (n, p, ok)) := hr
  clear hr
  obtain ⟨ao, cap, rfl, hc1, hnone, hr1⟩ := h
  rw [bs_len] at hr1 hc1 hget
  rw [bs_len]
  cases ok with
  | false =>
    have HG : Hid (getText xs at_ = (⟨#[]⟩, 0, false)) := getText_no HR.out (.inl rfl)
    go_enter Tryz.func40, Tryz.ntmps40
    go_wp2_with (go_at_call 70; refine hget.mono ?_; rintro e w' ⟨rfl, rfl⟩)
    go_ret3
    exact ⟨by rw [HG.out]; rfl, rfl⟩
  | true =>
    have hbd := getNum_bd HR.out
    obtain ⟨n, rfl⟩ := Int.eq_ofNat_of_zero_le hbd.1
    obtain ⟨p, rfl⟩ := Int.eq_ofNat_of_zero_le (show 0 ≤ p by omega)
    by_cases hbig : (xs.length : Int) - (p : Int) < (n : Int)
    · have HG : Hid (getText xs at_ = (⟨#[]⟩, 0, false)) := getText_no HR.out (.inr hbig)
      go_enter Tryz.func40, Tryz.ntmps40
      go_wp2_with (go_at_call 70; refine hget.mono ?_; rintro e w' ⟨rfl, rfl⟩)
      go_ret3
      exact ⟨by rw [HG.out]; rfl, rfl⟩
    · have HG : Hid (getText xs at_ = (txt ((xs.drop p).take n), (p : Int) + (n : Int), true)) := getText_yes HR.out (by omega)
      obtain ⟨b, off, rfl, hcell⟩ := hr1 (by omega)
      by_cases h0 : n = 0
      · subst h0
        have hconv : ∀ ao c w, (convert 22 9 (.slice ao 0 c)).run Tryz.prog w = .ok (.string ⟨#[]⟩) w := conv_none
        have HT : Hid (txt ((xs.drop p).take 0) = ⟨#[]⟩) := rfl
        clear hr1 hcell
        go_enter Tryz.func40, Tryz.ntmps40
        go_wp2_with (go_at_call 70; refine hget.mono ?_; rintro e w' ⟨rfl, rfl⟩)
        all_goals go_ret3
        all_goals exact ⟨by rw [HG.out]; exact rets rfl (by dsimp only; omega) rfl, rfl⟩
      · have hconv := conv_some (c := cap - p) hb hcell (show p + n ≤ xs.length by omega)
        clear hr1 hcell
        go_enter Tryz.func40, Tryz.ntmps40
        go_wp2_with (go_at_call 70; refine hget.mono ?_; rintro e w' ⟨rfl, rfl⟩)
        all_goals go_ret3
        all_goals exact ⟨by rw [HG.out]; exact rets rfl (by dsimp only) rfl, rfl⟩

end Go.Proofs.YtljlcelbhlkmcabGreatDoor.GetT

/- Contracts of the laws' own small functions on lists of texts: a copy, a comparison, how much there is, marks laid, marks looked for. -/
namespace Go.Proofs.YtljlcelbhlkmcabGreatDoor.Strs
open Go.RowKit Go.Proofs.YtljlcelbhlkmcabGreatDoor.Mem Go.Proofs.YtljlcelbhlkmcabGreatDoor.Bytes
set_option linter.unusedVariables false

theorem info9 : (Tryz.prog.info? 9).map (fun i => (i.zero, i.size, i.bytes)) = some (some (.string ⟨#[]⟩), 1, 16) := by kernel_rfl

theorem tot_take (l : List ByteArray) (k : Nat) (s : ByteArray) (h : l[k]? = some s) : Puts.tot (l.take (k + 1)) = Puts.tot (l.take k) + s.size := by
  induction l generalizing k with
  | nil => simp at h
  | cons x r ih =>
    cases k with
    | zero => simp at h; subst h; simp [Puts.tot]
    | succ k => simp at h; simp only [List.take_succ_cons, Puts.tot]; rw [ih k h]; omega

/-- the digits of a number, at most f of them more -/
def digF : Nat → Nat → List UInt8
  | 0, _ => []
  | f + 1, n => if n = 0 then [] else digF f (n / 10) ++ [UInt8.ofNat (48 + n % 10)]
def dig (n : Nat) : List UInt8 := digF n n
theorem digF_any (f : Nat) : ∀ g n, n ≤ f → n ≤ g → digF f n = digF g n := by
  induction f with
  | zero =>
    intro g n h1 h2
    obtain rfl : n = 0 := by omega
    cases g with
    | zero => rfl
    | succ g => rw [digF, digF, if_pos rfl]
  | succ f ih =>
    intro g n h1 h2
    cases g with
    | zero =>
      obtain rfl : n = 0 := by omega
      rw [digF, digF, if_pos rfl]
    | succ g =>
      rw [digF, digF]
      split
      · rfl
      · rw [ih g (n / 10) (by omega) (by omega)]
theorem dig_zero : dig 0 = [] := rfl
theorem dig_step {n : Nat} (h : ¬ n = 0) : dig n = dig (n / 10) ++ [UInt8.ofNat (48 + n % 10)] := by
  unfold dig
  obtain ⟨m, rfl⟩ : ∃ m, n = m + 1 := ⟨n - 1, by omega⟩
  rw [digF, if_neg h, digF_any m ((m + 1) / 10) ((m + 1) / 10) (by omega) (by omega)]
/-- the text of a mark -/
def mt (n : Nat) : ByteArray := ⟨(109 :: dig n).toArray⟩

theorem conv_byte (w : World) (x : Int) (hx : 0 ≤ x ∧ x ≤ 255) : ∀ (u : Int), u = x → (convert 22 9 (.slice (some ⟨w.heap.size, 0, none⟩) 1 1)).run Tryz.prog (w.alloc (.cells #[.int .u8 u] 5)) = .ok (.string ⟨#[UInt8.ofNat x.toNat]⟩) (w.alloc (.cells #[.int .u8 u] 5)) := by
  intro u hu
  subst hu
  refine run_convert_bytes_back (P := Tryz.prog) _ 22 9 5 ⟨w.heap.size, 0, none⟩ 1 [UInt8.ofNat u.toNat] Tryz.underlying22 Tryz.underlying5 Tryz.underlying9 (fun j hj => ?_)
  obtain rfl : j = 0 := by simp at hj; omega
  rw [Addr.add_lit, cell_of_row _ w.heap.size 0 #[.int .u8 u] 5 (0, 0) (heap_alloc_new w _)]
  simp only [List.getElem_cons_zero]
  rw [UInt8.toNat_ofNat', show ((u.toNat % 2 ^ 8 : Nat) : Int) = u by omega]
  rfl

theorem ba_cons (c : UInt8) (d : List UInt8) : (⟨#[c]⟩ : ByteArray) ++ ⟨d.toArray⟩ = ⟨(c :: d).toArray⟩ := by
  apply ByteArray.ext
  rw [ByteArray.data_append]
  simp

theorem ofNat48 (x : Nat) : (48 : UInt8) + UInt8.ofNat x = UInt8.ofNat (48 + x) := by
  rw [UInt8.ofNat_add]
  rfl

/-- marks from k on, as texts -/
def mts (k n : Nat) : List ByteArray := (List.range n).map fun i => mt (k + i)
theorem mts_len (k n : Nat) : (mts k n).length = n := by simp [mts]
theorem mts_get (k n j : Nat) (h : j < n) : (mts k n)[j]? = some (mt (k + j)) := by simp [mts, h]

end Go.Proofs.YtljlcelbhlkmcabGreatDoor.Strs

/- Contracts of GetTexts, the program's and the specification's: both answer 'getTexts' of the bytes; the list lies in new memory; nothing old is turned. -/
namespace Go.Proofs.YtljlcelbhlkmcabGreatDoor.GetTs
open Go.RowKit Go.Proofs.YtljlcelbhlkmcabGreatDoor.Mem Go.Proofs.YtljlcelbhlkmcabGreatDoor.Plain Go.Proofs.YtljlcelbhlkmcabGreatDoor.Laws
set_option linter.unusedVariables false

theorem one_str (s : ByteArray) : ∀ u ∈ [Value.string s], u.oneCell' = true := by
  intro u hu
  rw [List.mem_singleton] at hu
  rw [hu]
  rfl

theorem Own.emptyS (w : World) (lo : Nat) (h : lo ≤ w.heap.size) : Own (w.alloc (.cells #[] 9)) lo (w.alloc (.cells #[] 9)).heap.size 9 (.slice (some ⟨w.heap.size, 0, none⟩) 0 0) (ss []) :=
  Own.of (World.ownsRow_lit w #[] 0 h (Nat.zero_le _) rfl)
theorem Own.nilS (w : World) (lo hi : Nat) : Own w lo hi 9 (.slice none 0 0) (ss []) :=
  ⟨World.ownsRow_nil w lo 9 1, fun g hg => by simp [Value.ownBlock] at hg⟩

/-- What GetTexts answers, and what of the world it leaves. -/
def Done (xs : List Int) (at_ : Int) (w : World) (e : Ending) (w' : World) : Prop :=
  ∃ v' : Value, e = .returned (.tuple #[v', .int .i64 (getTexts xs at_).2.1, .bool (getTexts xs at_).2.2]) ∧ Own w' w.heap.size w'.heap.size 9 v' (ss (getTexts xs at_).1) ∧ Below w.heap.size w w'

theorem done_no {xs : List Int} {at_ : Int} {w w' : World} {v' : Value} (hg : getTexts xs at_ = ([], 0, false)) (ho : Own w' w.heap.size w'.heap.size 9 v' (ss [])) (hb : Below w.heap.size w w') :
    Done xs at_ w (.returned (.tuple #[v', .int .i64 0, .bool false])) w' := by
  unfold Done
  rw [hg]
  exact ⟨v', rfl, ho, hb⟩
theorem done_yes {xs : List Int} {at_ q : Int} {l : List ByteArray} {w w' : World} {v' : Value} (hg : getTexts xs at_ = (l, q, true)) (ho : Own w' w.heap.size w'.heap.size 9 v' (ss l)) (hb : Below w.heap.size w w') :
    Done xs at_ w (.returned (.tuple #[v', .int .i64 q, .bool true])) w' := by
  unfold Done
  rw [hg]
  exact ⟨v', rfl, ho, hb⟩

set_option maxRecDepth 1000000 in
set_option maxHeartbeats 2000000 in
theorem texts_impl (w : World) (v : Value) (xs : List Int) (at_ : Int) (h : Sl w v (bs xs)) (hb : Byt xs) (hx : xs.length ≤ 140737488355328) (hlo : -9223372036854775808 ≤ at_) (hhi : at_ ≤ 9223372036854775807) :
    Calls Tryz.prog 85 #[v, .int .i64 at_] w fun e w' => Done xs at_ w e w' := by
  obtain ⟨i0, hi, hz0, hz1, hz2⟩ := info_parts Strs.info9
  have hget := Gets.get_impl w v xs at_ h hb hx hlo hhi
  obtain ⟨n, p, ok, hr⟩ : ∃ n p ok, getNum xs at_ = (n, p, ok) := ⟨_, _, _, rfl⟩
  rw [hr] at hget
  have HR : Hid (getNum xs at_ = (n, p, ok)) := hr
  clear hr
  cases ok with
  | false =>
    have HG : Hid (getTexts xs at_ = ([], 0, false)) := getTexts_no HR.out (.inl rfl)
    go_enter Tryz.func85, Tryz.ntmps85
    go_wp2_with (go_at_call 104; refine hget.mono ?_; rintro e w' ⟨rfl, rfl⟩)
    go_ret3
    exact done_no HG.out (Own.nilS _ _ _) (Below.refl _ _)
  | true =>
    have hbd := getNum_bd HR.out
    obtain ⟨n, rfl⟩ := Int.eq_ofNat_of_zero_le hbd.1
    by_cases hbig : (200 : Int) < (n : Int)
    · have HG : Hid (getTexts xs at_ = ([], 0, false)) := getTexts_no HR.out (.inr hbig)
      go_enter Tryz.func85, Tryz.ntmps85
      go_wp2_with (go_at_call 104; refine hget.mono ?_; rintro e w' ⟨rfl, rfl⟩)
      go_ret3
      exact done_no HG.out (Own.nilS _ _ _) (Below.refl _ _)
    · have hn2 : n ≤ 200 := by omega
      have hlater : ∀ w', Below w.heap.size w w' → Sl w' v (bs xs) := fun w' hb => h.later hb
      go_enter Tryz.func85, Tryz.ntmps85
      go_wp2_with (first | (go_at_call 104; refine hget.mono ?_; rintro e wy ⟨rfl, hwy⟩; have hwy := hwy.symm; subst hwy) | (at_make; refine wpList_make_own _ rfl _ _ 46 rfl w.heap.size 9 i0 (.string ⟨#[]⟩) 1 Tryz.underlying46 hi hz0 hz1 _ _ _ n rfl rfl rfl (by rw [hz2]; omega) (by unfold maxLen; omega) (Nat.le_refl _) ?_))
      intro w1 hown hgrow
      have hbel : Below w.heap.size w w1 := (Below.refl _ _).grown hgrow (Nat.le_refl _) (by simp)
      have hown1 : Own w1 w.heap.size w1.heap.size 9 (.slice (some ⟨w.heap.size, 0, none⟩) 0 n) (ss []) := Own.of hown
      clear hget hgrow hown
      go_wp2
      go_loopw [8, 10, 30] (fun nx lv i wr => ∃ (k : Nat) (acc : List ByteArray) (q : Int), k ≤ n ∧ i = .int .i64 k ∧ nx = .int .i64 q ∧ 0 ≤ q ∧ q ≤ xs.length ∧ acc.length = k ∧ rd xs n p = (rd xs (n - k) q).map (fun r => (acc ++ r.1, r.2)) ∧ Own wr w.heap.size wr.heap.size 9 lv (ss acc) ∧ Below w.heap.size w wr) (fun _ _ i _ => n - (intOf i).toNat)
      case atStart => exact ⟨0, [], p, Nat.zero_le _, rfl, rfl, by omega, by omega, rfl, by simp, hown1, hbel⟩
      case round =>
        obtain ⟨k, acc, q, hk, rfl, rfl, hq0, hq1, hacc, hD0, ho, hbr⟩ := hrel
        have HD : Hid (acc.length = k ∧ rd xs n p = (rd xs (n - k) q).map (fun r => (acc ++ r.1, r.2))) := ⟨hacc, hD0⟩
        have hsz := hbr.size
        clear hD0 hacc hown1 hbel
        by_cases hlt : k < n
        · have htxt := GetT.text_impl wr v xs q (hlater wr hbr) hb hx (by omega) (by omega)
          obtain ⟨s, q2, ok2, hr2⟩ : ∃ s q2 ok2, getText xs q = (s, q2, ok2) := ⟨_, _, _, rfl⟩
          rw [hr2] at htxt
          have HT : Hid (getText xs q = (s, q2, ok2)) := hr2
          clear hr2
          obtain ⟨m, hm⟩ : ∃ m, n - k = m + 1 := ⟨n - k - 1, by omega⟩
          cases ok2 with
          | false =>
            have HG : Hid (getTexts xs at_ = ([], 0, false)) := getTexts_none HR.out hn2 (by rw [HD.out.2, hm, rd_no HT.out]; rfl)
            clear HD hm
            go_wp2_with (go_at_call 84; refine htxt.mono ?_; rintro e wy ⟨rfl, hwy⟩; have hwy := hwy.symm; subst hwy)
            go_ret3
            exact done_no HG.out (Own.nilS _ _ _) hbr
          | true =>
            have hbt := getText_bd HT.out
            have HN : Hid ((acc ++ [s]).length = k + 1 ∧ rd xs n p = (rd xs (n - (k + 1)) q2).map (fun r => ((acc ++ [s]) ++ r.1, r.2))) := by
              refine ⟨by rw [List.length_append, HD.out.1]; rfl, ?_⟩
              rw [HD.out.2, hm, rd_yes HT.out, show n - (k + 1) = m by omega, Option.map_map]
              simp [Function.comp_def]
            have c2 : (ss acc).length + 1 ≤ maxLen := by rw [ss_len, HD.out.1]; unfold maxLen; omega
            have c3 : ((ss acc).length + 1) * 16 ≤ 140737488355328 := by rw [ss_len, HD.out.1]; omega
            have c4 : ∀ o, w.heap.size ≤ (wr.alloc o).heap.size := fun o => by simp; omega
            clear HD hm
            go_wp2_with (first | (go_at_call 84; refine htxt.mono ?_; rintro e wy ⟨rfl, hwy⟩; have hwy := hwy.symm; subst hwy) | (at_builtin; go_must (refine wpl_app _ rfl (.tmp 41) (.tmp 43) 46 rfl 9 i0 (.string ⟨#[]⟩) 16 Tryz.underlying46 hi hz0 hz1 hz2 rfl w.heap.size _ (ss acc) rfl (ho.alloc _) _ rfl [.string s] (Sl.one _ _ _) (one_str _) c2 c3 (c4 _) ?_); intro v3 w3 ho3 hb3 hg3))
            have hb4 : Below w.heap.size w w3 := (hbr.alloc hsz _).trans hb3
            have ho4 : Own w3 w.heap.size w3.heap.size 9 v3 (ss (acc ++ [s])) := by rw [ss_app]; exact ho3
            go_roundw
            case rel => exact ⟨k + 1, acc ++ [s], q2, by omega, by go_num, rfl, by omega, by omega, HN.out.1, HN.out.2, ho4, hb4⟩
            case measure => simp [intOf]; omega
        · have hkn : k = n := by omega
          have HG : Hid (getTexts xs at_ = (acc, q, true)) := getTexts_some HR.out hn2 (by rw [HD.out.2, hkn, Nat.sub_self]; simp [rd])
          clear HD
          go_wp2
          go_ret3
          exact done_yes HG.out ho hbr

set_option maxRecDepth 1000000 in
set_option maxHeartbeats 2000000 in
theorem texts_spec (w : World) (v : Value) (xs : List Int) (at_ : Int) (h : Sl w v (bs xs)) (hb : Byt xs) (hx : xs.length ≤ 140737488355328) (hlo : -9223372036854775808 ≤ at_) (hhi : at_ ≤ 9223372036854775807) :
    Calls Tryz.prog 41 #[v, .int .i64 at_] w fun e w' => Done xs at_ w e w' := by
  obtain ⟨i0, hi, hz0, hz1, hz2⟩ := info_parts Strs.info9
  have hget := Gets.get_spec w v xs at_ h hb hx hlo hhi
  obtain ⟨n, p, ok, hr⟩ : ∃ n p ok, getNum xs at_ = (n, p, ok) := ⟨_, _, _, rfl⟩
  rw [hr] at hget
  have HR : Hid (getNum xs at_ = (n, p, ok)) := hr
  clear hr
  cases ok with
  | false =>
    have HG : Hid (getTexts xs at_ = ([], 0, false)) := getTexts_no HR.out (.inl rfl)
    go_enter Tryz.func41, Tryz.ntmps41
    go_wp2_with (go_at_call 70; refine hget.mono ?_; rintro e w' ⟨rfl, rfl⟩)
    go_ret3
    exact done_no HG.out (Own.emptyS _ _ (Nat.le_refl _)) ((Below.refl _ _).alloc (Nat.le_refl _) _)
  | true =>
    have hbd := getNum_bd HR.out
    obtain ⟨n, rfl⟩ := Int.eq_ofNat_of_zero_le hbd.1
    by_cases hbig : (200 : Int) < (n : Int)
    · have HG : Hid (getTexts xs at_ = ([], 0, false)) := getTexts_no HR.out (.inr hbig)
      go_enter Tryz.func41, Tryz.ntmps41
      go_wp2_with (go_at_call 70; refine hget.mono ?_; rintro e w' ⟨rfl, rfl⟩)
      go_ret3
      exact done_no HG.out (Own.emptyS _ _ (Nat.le_refl _)) ((Below.refl _ _).alloc (Nat.le_refl _) _)
    · have hn2 : n ≤ 200 := by omega
      have hlater : ∀ w', Below w.heap.size w w' → Sl w' v (bs xs) := fun w' hb => h.later hb
      go_enter Tryz.func41, Tryz.ntmps41
      go_wp2_with (go_at_call 70; refine hget.mono ?_; rintro e wy ⟨rfl, hwy⟩; have hwy := hwy.symm; subst hwy)
      have hbel : Below w.heap.size w (w.alloc (.cells #[] 9)) := (Below.refl _ _).alloc (Nat.le_refl _) _
      have hown1 := Own.emptyS w w.heap.size (Nat.le_refl _)
      clear hget
      go_loopw [8, 10, 11] (fun nx lv i wr => ∃ (k : Nat) (acc : List ByteArray) (q : Int), k ≤ n ∧ i = .int .i64 k ∧ nx = .int .i64 q ∧ 0 ≤ q ∧ q ≤ xs.length ∧ acc.length = k ∧ rd xs n p = (rd xs (n - k) q).map (fun r => (acc ++ r.1, r.2)) ∧ Own wr w.heap.size wr.heap.size 9 lv (ss acc) ∧ Below w.heap.size w wr) (fun _ _ i _ => n - (intOf i).toNat)
      case atStart => exact ⟨0, [], p, Nat.zero_le _, rfl, rfl, by omega, by omega, rfl, by simp, hown1, hbel⟩
      case round =>
        obtain ⟨k, acc, q, hk, rfl, rfl, hq0, hq1, hacc, hD0, ho, hbr⟩ := hrel
        have HD : Hid (acc.length = k ∧ rd xs n p = (rd xs (n - k) q).map (fun r => (acc ++ r.1, r.2))) := ⟨hacc, hD0⟩
        have hsz := hbr.size
        clear hD0 hacc hown1 hbel
        by_cases hlt : k < n
        · have htxt := GetT.text_spec wr v xs q (hlater wr hbr) hb hx (by omega) (by omega)
          obtain ⟨s, q2, ok2, hr2⟩ : ∃ s q2 ok2, getText xs q = (s, q2, ok2) := ⟨_, _, _, rfl⟩
          rw [hr2] at htxt
          have HT : Hid (getText xs q = (s, q2, ok2)) := hr2
          clear hr2
          obtain ⟨m, hm⟩ : ∃ m, n - k = m + 1 := ⟨n - k - 1, by omega⟩
          cases ok2 with
          | false =>
            have HG : Hid (getTexts xs at_ = ([], 0, false)) := getTexts_none HR.out hn2 (by rw [HD.out.2, hm, rd_no HT.out]; rfl)
            clear HD hm
            go_wp2_with (go_at_call 40; refine htxt.mono ?_; rintro e wy ⟨rfl, hwy⟩; have hwy := hwy.symm; subst hwy)
            go_ret3
            exact done_no HG.out (Own.emptyS _ _ hsz) (hbr.alloc hsz _)
          | true =>
            have hbt := getText_bd HT.out
            have HN : Hid ((acc ++ [s]).length = k + 1 ∧ rd xs n p = (rd xs (n - (k + 1)) q2).map (fun r => ((acc ++ [s]) ++ r.1, r.2))) := by
              refine ⟨by rw [List.length_append, HD.out.1]; rfl, ?_⟩
              rw [HD.out.2, hm, rd_yes HT.out, show n - (k + 1) = m by omega, Option.map_map]
              simp [Function.comp_def]
            have c2 : (ss acc).length + 1 ≤ maxLen := by rw [ss_len, HD.out.1]; unfold maxLen; omega
            have c3 : ((ss acc).length + 1) * 16 ≤ 140737488355328 := by rw [ss_len, HD.out.1]; omega
            have c4 : ∀ o, w.heap.size ≤ (wr.alloc o).heap.size := fun o => by simp; omega
            clear HD hm
            go_wp2_with (first | (go_at_call 40; refine htxt.mono ?_; rintro e wy ⟨rfl, hwy⟩; have hwy := hwy.symm; subst hwy) | (at_builtin; go_must (refine wpl_app _ rfl (.tmp 45) (.tmp 47) 46 rfl 9 i0 (.string ⟨#[]⟩) 16 Tryz.underlying46 hi hz0 hz1 hz2 rfl w.heap.size _ (ss acc) rfl (ho.alloc _) _ rfl [.string s] (Sl.one _ _ _) (one_str _) c2 c3 (c4 _) ?_); intro v3 w3 ho3 hb3 hg3))
            have hb4 : Below w.heap.size w w3 := (hbr.alloc hsz _).trans hb3
            have ho4 : Own w3 w.heap.size w3.heap.size 9 v3 (ss (acc ++ [s])) := by rw [ss_app]; exact ho3
            go_roundw
            case rel => exact ⟨k + 1, acc ++ [s], q2, by omega, by go_num, rfl, by omega, by omega, HN.out.1, HN.out.2, ho4, hb4⟩
            case measure => simp [intOf]; omega
        · have hkn : k = n := by omega
          have HG : Hid (getTexts xs at_ = (acc, q, true)) := getTexts_some HR.out hn2 (by rw [HD.out.2, hkn, Nat.sub_self]; simp [rd])
          clear HD
          go_wp2
          go_ret3
          exact done_yes HG.out ho hbr

end Go.Proofs.YtljlcelbhlkmcabGreatDoor.GetTs
