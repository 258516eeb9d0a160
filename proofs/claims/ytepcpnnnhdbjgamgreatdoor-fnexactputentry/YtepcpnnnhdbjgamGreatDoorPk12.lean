/- Texts in one: Ent6, Puts, Ent8. -/
import Derived.Test.YtepcpnnnhdbjgamGreatDoorPk11
import Derived.Test.YtepcpnnnhdbjgamGreatDoorPk2
import Derived.Test.YtepcpnnnhdbjgamGreatDoorPk3
import Derived.Laws.CopyOwn
/- Chapter 5, the specification's side: is an entry right. -/
namespace Go.Proofs.YtepcpnnnhdbjgamGreatDoor.Ent
open Go.RowKit Go.Proofs.YtepcpnnnhdbjgamGreatDoor.Mem Go.Proofs.YtepcpnnnhdbjgamGreatDoor.Laws Go.Proofs.YtepcpnnnhdbjgamGreatDoor.Bytes Go.Proofs.YtepcpnnnhdbjgamGreatDoor.Sha Go.Proofs.YtepcpnnnhdbjgamGreatDoor.Ver Go.Proofs.YtepcpnnnhdbjgamGreatDoor.Mod
set_option linter.unusedVariables false
set_option linter.unusedSimpArgs false

/-- does it need itself -/
def self5 (n : Nd) (l : List Nd) : Bool := l.any fun x => eqT x.path n.path
def entry5 (n : Nd) (l : List Nd) : Bool := !self5 n l && n.ok && decide (l.length ≤ 8) && rise l

theorem self5_take {n x : Nd} {l : List Nd} {k : Nat} (h : l[k]? = some x) : self5 n (l.take (k + 1)) = (self5 n (l.take k) || eqT x.path n.path) := by
  unfold self5
  rw [List.take_add_one, h, List.any_append]
  simp
theorem self5_bad {n x : Nd} {l : List Nd} {k : Nat} (h : l[k]? = some x) (he : eqT x.path n.path = true) : self5 n l = true := by
  unfold self5
  rw [List.any_eq_true]
  exact ⟨x, List.mem_of_getElem? h, he⟩

set_option maxRecDepth 1000000 in
set_option maxHeartbeats 2000000 in
theorem entryok_spec (w : World) (n : Nd) (v : Value) (l : List Nd) (h : Sd w v l) (hl : l.length ≤ 1000000000000) (hp : n.path.size ≤ 1000000000000) (hq : n.pre.size ≤ 1000000000000) (hz : ∀ n ∈ l, n.path.size ≤ 1000000000000 ∧ n.pre.size ≤ 1000000000000) :
    Calls Tryz.prog 16 #[.agg #[.string n.path, .int .i64 n.a, .int .i64 n.b, .int .i64 n.c, .string n.pre, v]] w fun e w' => e = .returned (.bool (entry5 n l)) ∧ Below w.heap.size w w' := by
  have HD : Hid (entry5 n l = (!self5 n l && n.ok && decide (l.length ≤ 8) && rise l)) := rfl
  have q1 : ∀ W, _ := fun W => fits_spec W n.path n.a n.b n.c n.pre hp hq
  unfold Ver.ver at q1
  have q2 : ∀ W, Below w.heap.size w W → _ := fun W hW => rising_spec W v l (h.later hW) hl hz
  have HR : Hid ((w.alloc (.cells #[.string n.path, .int .i64 n.a, .int .i64 n.b, .int .i64 n.c, .string n.pre, v] 32)).heap[w.heap.size]? = some (.cells (ec n v) 32 (0, 0))) := heap_alloc_new w _
  have HB : Hid (Below w.heap.size w (w.alloc (.cells #[.string n.path, .int .i64 n.a, .int .i64 n.b, .int .i64 n.c, .string n.pre, v] 32))) := (Below.refl _ _).alloc (Nat.le_refl _) _
  have HS : Hid (Sd w v l) := h
  obtain ⟨hcl, ao, cap, rfl, hcap, hnn, _⟩ := h
  clear hz
  go_enter Tryz.func16, Tryz.ntmps16
  go_wp2
  go_loopw [3] (fun i wr => ∃ k : Nat, k ≤ l.length ∧ i = .int .i64 (k : Int) ∧ Hid (self5 n (l.take k) = false) ∧ wr.heap[w.heap.size]? = some (.cells (ec n (.slice ao l.length cap)) 32 (0, 0)) ∧ Below w.heap.size w wr) (fun i _ => l.length - (intOf i).toNat)
  case atStart => exact ⟨0, Nat.zero_le _, rfl, by show _ = _; simp [self5], HR.out, HB.out⟩
  case round =>
    obtain ⟨k, hk, rfl, HA, hR, hB⟩ := hrel
    have k0 : wr.cell? ⟨w.heap.size, 0, none⟩ = some (.string n.path) := row_cells hR 0
    have k5 : wr.cell? ⟨w.heap.size, 5, none⟩ = some (.slice ao l.length cap) := row_cells hR 5
    have HR1 : Hid (wr.heap[w.heap.size]? = some (.cells (ec n (.slice ao l.length cap)) 32 (0, 0))) := hR
    clear hR HR HB
    by_cases hlt : k < l.length
    · obtain ⟨x, hn⟩ : ∃ n, l[k]? = some n := ⟨l[k], by simp [hlt]⟩
      obtain ⟨b, off, cap', he, _, c0, _, _, _, _⟩ := Sd.at (HS.out.later hB) hn
      simp only [Value.slice.injEq] at he
      obtain ⟨rfl, _, rfl⟩ := he
      obtain ⟨eq, heq⟩ : ∃ b, eqT x.path n.path = b := ⟨_, rfl⟩
      have heq' : (x.path.toList == n.path.toList) = eq := heq
      have HT : Hid (self5 n (l.take (k + 1)) = eq) := by show _ = _; rw [self5_take hn, HA.out, heq]; rfl
      have HX : Hid (eq = true → entry5 n l = false) := by
        intro h1
        rw [HD.out, self5_bad hn (by rw [heq, h1])]
        rfl
      clear hn heq
      cases eq
      · go_wp2_with fail
        go_quiet (fail)
        go_wp2
        go_roundw
        case rel => exact ⟨k + 1, by omega, by go_num, HT, HR1.out, Below.trans hB ⟨rfl, rfl, rfl, Nat.le_refl _, fun _ _ => rfl⟩⟩
        case measure => simp [intOf]; omega
      · have HF : Hid (entry5 n l = false) := HX.out rfl
        clear HX
        go_wp2_with fail
        go_quiet (fail)
        go_wp2
        go_ret
        exact ⟨by rw [HF.out]; rfl, Below.trans hB ⟨rfl, rfl, rfl, Nat.le_refl _, fun _ _ => rfl⟩⟩
    · have HN : Hid (self5 n l = false) := by
        show _ = _
        have := HA.out
        rwa [List.take_of_length_le (by omega)] at this
      have k1 : wr.cell? ⟨w.heap.size, 1, none⟩ = some (.int .i64 n.a) := row_cells HR1.out 1
      have k2 : wr.cell? ⟨w.heap.size, 2, none⟩ = some (.int .i64 n.b) := row_cells HR1.out 2
      have k3 : wr.cell? ⟨w.heap.size, 3, none⟩ = some (.int .i64 n.c) := row_cells HR1.out 3
      have k4 : wr.cell? ⟨w.heap.size, 4, none⟩ = some (.string n.pre) := row_cells HR1.out 4
      obtain ⟨f, hf⟩ : ∃ f, fits4 n.path n.a n.b n.c n.pre = f := ⟨_, rfl⟩
      simp only [hf] at q1
      have HE : Hid (entry5 n l = (f && decide (l.length ≤ 8) && rise l)) := by
        show _ = _
        rw [HD.out, HN.out]
        unfold Nd.ok
        rw [hf]
        rfl
      clear hf
      go_wp2_with fail
      refine (q1 _).mono ?_
      rintro e w2 ⟨rfl, b2⟩
      have hB2 : Below w.heap.size w w2 := hB.trans (b2.mono hB.size)
      have j5 : w2.cell? ⟨w.heap.size, 5, none⟩ = some (.slice ao l.length cap) := row_cells (rowKeep HR1.out b2) 5
      have q3 := q2 w2 hB2
      clear q1 q2 k0 k1 k2 k3 k4 k5 HR1 b2 hB
      cases f
      · have HF : Hid (entry5 n l = false) := HE.out
        go_wp2
        go_ret
        exact ⟨by rw [HF.out]; rfl, hB2⟩
      · by_cases h8 : l.length ≤ 8
        · obtain ⟨r, hr⟩ : ∃ r, rise l = r := ⟨_, rfl⟩
          rw [hr] at q3
          have HF : Hid (entry5 n l = r) := by show _ = _; rw [HE.out, decide_eq_true h8, hr]; rfl
          have d8 : decide ((l.length : Int) ≤ 8) = true := by simp; omega
          clear hr
          go_wp2_with fail
          refine q3.mono ?_
          rintro e w3 ⟨rfl, b3⟩
          go_wp2
          go_ret
          exact ⟨by rw [HF.out]; rfl, hB2.trans (b3.mono hB2.size)⟩
        · have HF : Hid (entry5 n l = false) := by show _ = _; rw [HE.out, decide_eq_false h8]; rfl
          have d8 : decide ((l.length : Int) ≤ 8) = false := by simp; omega
          go_wp2
          go_ret
          exact ⟨by rw [HF.out]; rfl, hB2⟩

end Go.Proofs.YtepcpnnnhdbjgamGreatDoor.Ent

/- Contracts of PutNum, the program's and the specification's: both make, in new memory, the bytes that were there and the number's groups behind them. -/
namespace Go.Proofs.YtepcpnnnhdbjgamGreatDoor.Puts
open Go.RowKit Go.Proofs.YtepcpnnnhdbjgamGreatDoor.Mem Go.Proofs.YtepcpnnnhdbjgamGreatDoor.Plain Go.Proofs.YtepcpnnnhdbjgamGreatDoor.Laws Go.Proofs.YtepcpnnnhdbjgamGreatDoor.Bytes
set_option linter.unusedVariables false

/-- the bytes of a number as it is put -/
def num (n : Int) : List Int := enc (clampN n).toNat
theorem num_byt (n : Int) : Byt (num n) := enc_byte _
theorem num_len (n : Int) : 1 ≤ (num n).length ∧ (num n).length ≤ 5 := ⟨enc_len _, enc_len5 _ (by have := clampN_bd n; omega)⟩

theorem near_any (n : Int) (w : World) : Calls Tryz.prog 64 #[.int .i64 n] w fun e w' => e = .returned (.int .i64 (clampN n)) ∧ w = w' := by
  by_cases h0 : n < 0
  · have HC : Hid (clampN n = 0) := by show clampN n = 0; unfold clampN; rw [if_pos h0]
    go_enter Tryz.func64, Tryz.ntmps64
    go_wp2
    go_ret
    exact ⟨by rw [HC.out]; rfl, rfl⟩
  · by_cases h1 : 1000000000 < n
    · have HC : Hid (clampN n = 1000000000) := by show clampN n = _; unfold clampN; rw [if_neg h0, if_pos h1]
      go_enter Tryz.func64, Tryz.ntmps64
      go_wp2
      go_ret
      exact ⟨by rw [HC.out]; rfl, rfl⟩
    · have HC : Hid (clampN n = n) := by show clampN n = _; unfold clampN; rw [if_neg h0, if_neg h1]
      go_enter Tryz.func64, Tryz.ntmps64
      go_wp2
      go_ret
      exact ⟨by rw [HC.out]; rfl, rfl⟩

set_option maxHeartbeats 400000 in
/-- ownBytes: a copy in new memory. -/
theorem own_any (w : World) (v : Value) (xs : List Int) (h : Sl w v (bs xs)) (hx : xs.length ≤ 140737488355328) :
    Calls Tryz.prog 46 #[v] w fun e w' => ∃ v', e = .returned v' ∧ Own w' w.heap.size w'.heap.size 5 v' (bs xs) ∧ Below w.heap.size w w' := by
  obtain ⟨i0, hi, hz0, hz1, hz2⟩ := info_parts info5
  have hlater : ∀ w', Below w.heap.size w w' → Sl w' v (bs xs) := fun w' hb => h.later hb
  obtain ⟨ao, cap, rfl, hc, _, hr⟩ := h
  rw [bs_len] at hr hc hlater
  rw [bs_len]
  go_enter Tryz.func46, Tryz.ntmps46
  go_wp2_with (first | (at_make; refine wpList_make_full _ rfl _ _ 47 rfl w.heap.size 5 i0 (.int .u8 0) 1 Tryz.underlying47 hi hz0 hz1 _ _ _ _ xs.length rfl rfl rfl rfl (by rw [hz2]; omega) (by unfold maxLen; omega) (Nat.le_refl _) ?_))
  intro w1 hown hgrow
  have hbel : Below w.heap.size w w1 := (Below.refl _ _).grown hgrow (Nat.le_refl _) (by simp)
  obtain ⟨L, hown'⟩ : ∃ L, w1.ownsRow w.heap.size 5 1 (.slice (some ⟨w.heap.size, 0, none⟩) xs.length xs.length) xs.length L := ⟨_, hown⟩
  have hblk : w1.heap[w.heap.size]? = some (.cells L.toArray 5 (0, 0)) := full_block hown'
  have hLn : L.length = xs.length := by have := hown'.1; omega
  have HLn : Hid (L.length = xs.length) := hLn
  obtain ⟨C, hC⟩ : ∃ C, C = bs xs := ⟨_, rfl⟩
  have HC : Hid (C = bs xs ∧ C.length = xs.length) := ⟨hC, by rw [hC, bs_len]⟩
  have hsz : (Tryz.prog.info? 5).map (·.size) = some 1 := by rw [hi]; simp [hz1]
  obtain ⟨ao', cap', he, _, _, hr'⟩ := hlater w1 hbel
  rw [bs_len] at he hr'
  simp only [Value.slice.injEq] at he
  obtain ⟨rfl, _, rfl⟩ := he
  have HS : Hid (0 < C.length → ∃ ad, ao = some ad ∧ ∀ j u, C[j]? = some u → w1.cell? (ad.add j) = some u) := by
    intro hp
    rw [HC.out.2] at hp
    obtain ⟨b, off, rfl, hcell⟩ := hr' hp
    refine ⟨_, rfl, fun j u hj => ?_⟩
    rw [Addr.add_lit, hcell j (by have := (List.getElem?_eq_some_iff.1 hj).1; rw [HC.out.2] at this; exact this), ← HC.out.1]
    exact hj
  have HO : Hid (∀ u ∈ C, u.oneCell' = true) := by show ∀ u ∈ C, u.oneCell' = true; rw [hC]; exact bs_one _
  clear hown hown' hgrow hLn hC hr hr'
  go_wp2_with (refine wpList_copy_splice rfl (.tmp 7) (.tmp 8) 47 47 rfl 5 Tryz.underlying47 hsz _ _ _ _ _ _ rfl rfl w.heap.size 0 L 5 hblk C (HC.out.2.trans (Nat.min_self _).symm) (fun hp => ⟨rfl, HS.out hp⟩) (by rw [HC.out.2, HLn.out]; omega) HO.out w.heap.size w hbel (Nat.le_refl _) ?_)
  intro w2 hg2 hb2
  go_wp2
  go_ret
  have hfin := hg2.out
  rw [splice_all (by rw [HLn.out, HC.out.2])] at hfin
  refine ⟨_, rfl, ?_, hb2⟩
  rw [← HC.out.1]
  exact Own.of (full_own hfin (Nat.le_refl _) HC.out.2 (by unfold maxLen; omega))

theorem byte_small {m : Nat} (h : m < 128) (ys : List Int) : ys ++ [(m : Int)] = ys ++ enc m := by rw [enc_small h]

theorem one_byte (x : Int) : ∀ u ∈ [Value.int .u8 x], u.oneCell' = true := by
  intro u hu
  rw [List.mem_singleton] at hu
  rw [hu]
  rfl

set_option maxRecDepth 1000000 in
set_option maxHeartbeats 1000000 in
/-- addNums of one number, onto a row that the caller owns. -/
theorem nums_one (w : World) (lo : Nat) (v : Value) (xs : List Int) (g : Nat) (n : Int) (h : Own w lo w.heap.size 5 v (bs xs)) (hlo : lo ≤ w.heap.size) (hx : xs.length ≤ 70368744177664)
    (hcell : w.cell? ⟨g, 0, none⟩ = some (.int .i64 n)) :
    Calls Tryz.prog 45 #[v, .slice (some ⟨g, 0, none⟩) 1 1] w fun e w' => ∃ v', e = .returned v' ∧ Own w' lo w'.heap.size 5 v' (bs (xs ++ num n)) ∧ Below lo w w' := by
  obtain ⟨i0, hi, hz0, hz1, hz2⟩ := info_parts info5
  go_enter Tryz.func45, Tryz.ntmps45
  go_wp2
  go_loopw [0, 9] (fun b i wr => (i = .int .i64 0 ∧ w = wr ∧ v = b) ∨ (i = .int .i64 1 ∧ Own wr lo wr.heap.size 5 b (bs (xs ++ num n)) ∧ Below lo w wr)) (fun _ i _ => 1 - (intOf i).toNat)
  case atStart => exact .inl ⟨rfl, rfl, rfl⟩
  case round =>
    rcases hrel with ⟨rfl, rfl, rfl⟩ | ⟨rfl, ho, hb⟩
    · have hcb := clampN_bd n
      go_wp2_with (go_at_call 64; refine (near_any _ _).mono ?_; rintro e w' ⟨rfl, rfl⟩)
      obtain ⟨m0, hm0⟩ : ∃ m0 : Nat, clampN n = (m0 : Int) := ⟨(clampN n).toNat, by omega⟩
      have HM : Hid (num n = enc m0) := by show num n = enc m0; unfold num; rw [hm0]; rfl
      have hm0b : m0 ≤ 1000000000 := by omega
      have hnl := num_len n
      rw [hm0]
      clear hcb hcell hm0
      go_loopw [0, 6] (fun b nn wr => ∃ (m : Nat) (ys : List Int), m ≤ 1000000000 ∧ nn = .int .i64 m ∧ ys ++ enc m = xs ++ num n ∧ Own wr lo wr.heap.size 5 b (bs ys) ∧ Below lo w wr) (fun _ nn _ => (intOf nn).toNat)
      case atStart => exact ⟨m0, xs, hm0b, rfl, by rw [HM.out], h, Below.refl _ _⟩
      case round =>
        obtain ⟨m, ys, hm, rfl, hE0, ho, hb⟩ := hrel
        have HE : Hid (ys ++ enc m = xs ++ num n) := hE0
        have hyl : ys.length ≤ xs.length + 5 := by have := congrArg List.length hE0; simp at this; omega
        have hsz := hb.size
        clear hE0 HM
        by_cases hlt : 128 ≤ m
        · have HS : Hid ((ys ++ [((m % 128 + 128 : Nat) : Int)]) ++ enc (m / 128) = xs ++ num n) := by
            show _ = _; rw [← HE.out, enc_step (show ¬ m < 128 by omega), List.append_assoc]; rfl
          have c2 : (bs ys).length + 1 ≤ maxLen := by rw [bs_len]; unfold maxLen; omega
          have c3 : ((bs ys).length + 1) * 1 ≤ 140737488355328 := by rw [bs_len]; omega
          have c4 : ∀ o, lo ≤ (wr.alloc o).heap.size := fun o => by simp; omega
          go_wp2_with (at_builtin; go_must (refine wpl_app _ rfl (.tmp 17) (.tmp 22) 47 rfl 5 i0 (.int .u8 0) 1 Tryz.underlying47 hi hz0 hz1 hz2 rfl lo _ (bs ys) rfl (ho.alloc _) _ rfl [.int .u8 ((m : Int) % 128 + 128)] (Sl.one _ _ _) (one_byte _) c2 c3 (c4 _) ?_); intro v1 w1 ho1 hb1 hg1)
          have hb2 : Below lo w w1 := (hb.alloc (by omega) _).trans hb1
          have ho2 : Own w1 lo w1.heap.size 5 v1 (bs (ys ++ [((m % 128 + 128 : Nat) : Int)])) := by rw [bs_app]; exact ho1
          go_roundw
          case rel => exact ⟨m / 128, ys ++ [((m % 128 + 128 : Nat) : Int)], by omega, by go_num, HS.out, ho2, hb2⟩
          case measure => simp [intOf]; omega
        · have c2 : (bs ys).length + 1 ≤ maxLen := by rw [bs_len]; unfold maxLen; omega
          have c3 : ((bs ys).length + 1) * 1 ≤ 140737488355328 := by rw [bs_len]; omega
          have c4 : ∀ o, lo ≤ (wr.alloc o).heap.size := fun o => by simp; omega
          have HS : Hid (ys ++ [(m : Int)] = xs ++ num n) := by show _ = _; rw [← HE.out, enc_small (show m < 128 by omega)]
          go_wp2_with (at_builtin; go_must (refine wpl_app _ rfl (.tmp 26) (.tmp 29) 47 rfl 5 i0 (.int .u8 0) 1 Tryz.underlying47 hi hz0 hz1 hz2 rfl lo _ (bs ys) rfl (ho.alloc _) _ rfl [.int .u8 (m : Int)] (Sl.one _ _ _) (one_byte _) c2 c3 (c4 _) ?_); intro v1 w1 ho1 hb1 hg1)
          have hb2 : Below lo w w1 := (hb.alloc (by omega) _).trans hb1
          have ho2 : Own w1 lo w1.heap.size 5 v1 (bs (xs ++ num n)) := by rw [← HS.out, bs_app]; exact ho1
          go_roundw
          case rel => exact .inr ⟨rfl, ho2, hb2⟩
          case measure => simp [intOf]
    · go_wp2
      go_ret
      exact ⟨_, rfl, ho, hb⟩

theorem new_cell (w : World) (u : Value) (t : TypeId) : (w.alloc (.cells #[u] t)).cell? ⟨w.heap.size, 0, none⟩ = some u := by
  rw [cell_of_row _ w.heap.size 0 #[u] t (0, 0) (heap_alloc_new w _)]
  rfl

theorem Own.empty (w : World) (lo : Nat) (h : lo ≤ w.heap.size) : Own (w.alloc (.cells #[] 5)) lo (w.alloc (.cells #[] 5)).heap.size 5 (.slice (some ⟨w.heap.size, 0, none⟩) 0 0) (bs []) :=
  Own.of (World.ownsRow_lit w #[] 0 h (Nat.zero_le _) rfl)

set_option maxRecDepth 1000000 in
set_option maxHeartbeats 1000000 in
theorem put_spec (w : World) (v : Value) (xs : List Int) (n : Int) (h : Sl w v (bs xs)) (hx : xs.length ≤ 70368744177664) :
    Calls Tryz.prog 39 #[v, .int .i64 n] w fun e w' => ∃ v', e = .returned v' ∧ Own w' w.heap.size w'.heap.size 5 v' (bs (xs ++ num n)) ∧ Below w.heap.size w w' := by
  obtain ⟨i0, hi, hz0, hz1, hz2⟩ := info_parts info5
  have c2 : (bs []).length + (bs xs).length ≤ maxLen := by rw [bs_len, bs_len]; unfold maxLen; simp; omega
  have c3 : ((bs []).length + (bs xs).length) * 1 ≤ 140737488355328 := by rw [bs_len, bs_len]; simp; omega
  have c4 : ∀ o, w.heap.size ≤ (w.alloc o).heap.size := fun o => by simp
  have hs2 : ∀ o, Sl (w.alloc o) v (bs xs) := fun o => h.later ((Below.refl _ _).alloc (Nat.le_refl _) o)
  have HB : Hid (0 ≤ clampN n ∧ clampN n ≤ 1000000000) := clampN_bd n
  have hway : (decide (1000000000 < n) = true ∧ clampN n = 1000000000) ∨ (decide (1000000000 < n) = false ∧ decide (n < 0) = true ∧ clampN n = 0) ∨ (decide (1000000000 < n) = false ∧ decide (n < 0) = false ∧ clampN n = n) := by
    simp only [decide_eq_true_eq, decide_eq_false_iff_not]
    unfold clampN; (split <;> (try split)) <;> omega
  rcases hway with ⟨hd1, hcl⟩ | ⟨hd1, hd2, hcl⟩ | ⟨hd1, hd2, hcl⟩
  all_goals
    have HC : Hid (clampN n = _) := hcl
    clear hcl
    go_enter Tryz.func39, Tryz.ntmps39
    go_wp2_with (at_builtin; go_must (refine wpl_app _ rfl (.tmp 6) (.tmp 7) 47 rfl 5 i0 (.int .u8 0) 1 Tryz.underlying47 hi hz0 hz1 hz2 rfl w.heap.size _ (bs []) rfl (Own.empty w _ (Nat.le_refl _)) _ rfl (bs xs) (hs2 _) (bs_one _) c2 c3 (c4 _) ?_))
    intro v1 w1 ho1 hb1 hg1
    have hb2 : Below w.heap.size w w1 := ((Below.refl _ _).alloc (Nat.le_refl _) _).trans hb1
    rw [← bs_app, List.nil_append] at ho1
    clear hg1 hb1 c2 c3 c4 hs2
    go_wp2
    go_loopw [1, 5] (fun nn b wr => ∃ (m : Nat) (ys : List Int), m ≤ 1000000000 ∧ nn = .int .i64 m ∧ ys ++ enc m = xs ++ num n ∧ Own wr w.heap.size wr.heap.size 5 b (bs ys) ∧ Below w.heap.size w wr) (fun nn _ _ => (intOf nn).toNat)
    case atStart =>
      have hcb := HB.out
      have hcl := HC.out
      exact ⟨(clampN n).toNat, xs, by omega, congrArg (Value.int .i64) (by omega), rfl, ho1, hb2⟩
    case round =>
      obtain ⟨m, ys, hm, rfl, hE0, ho, hb⟩ := hrel
      have HE : Hid (ys ++ enc m = xs ++ num n) := hE0
      have hyl : ys.length ≤ xs.length + 5 := by have := congrArg List.length hE0; have := (num_len n).2; simp at *; omega
      have hsz := hb.size
      have c2 : (bs ys).length + 1 ≤ maxLen := by rw [bs_len]; unfold maxLen; omega
      have c3 : ((bs ys).length + 1) * 1 ≤ 140737488355328 := by rw [bs_len]; omega
      have c4 : ∀ o, w.heap.size ≤ (wr.alloc o).heap.size := fun o => by simp; omega
      clear hE0
      by_cases hlt : 127 < m
      · have HS : Hid ((ys ++ [((m % 128 + 128 : Nat) : Int)]) ++ enc (m / 128) = xs ++ num n) := by
          show _ = _; rw [← HE.out, enc_step (show ¬ m < 128 by omega), List.append_assoc]; rfl
        have hmask := and127 (n := (m : Int)) (by omega) (by omega)
        have hor := or128 (n := (m : Int) % 128) (by omega) (by omega)
        go_wp2_with (at_builtin; go_must (refine wpl_app _ rfl (.tmp 15) (.tmp 20) 47 rfl 5 i0 (.int .u8 0) 1 Tryz.underlying47 hi hz0 hz1 hz2 rfl w.heap.size _ (bs ys) rfl (ho.alloc _) _ rfl [.int .u8 ((m : Int) % 128 + 128)] (Sl.one _ _ _) (one_byte _) c2 c3 (c4 _) ?_); intro v3 w3 ho3 hb3 hg3)
        have hb4 : Below w.heap.size w w3 := (hb.alloc (by omega) _).trans hb3
        have ho4 : Own w3 w.heap.size w3.heap.size 5 v3 (bs (ys ++ [((m % 128 + 128 : Nat) : Int)])) := by rw [bs_app]; exact ho3
        go_roundw
        case rel => exact ⟨m / 128, ys ++ [((m % 128 + 128 : Nat) : Int)], by omega, by go_num, HS.out, ho4, hb4⟩
        case measure => simp [intOf]; omega
      · have HS : Hid (ys ++ [(m : Int)] = xs ++ num n) := by show _ = _; rw [← HE.out, enc_small (show m < 128 by omega)]
        go_wp2_with (at_builtin; go_must (refine wpl_app _ rfl (.tmp 24) (.tmp 27) 47 rfl 5 i0 (.int .u8 0) 1 Tryz.underlying47 hi hz0 hz1 hz2 rfl w.heap.size _ (bs ys) rfl (ho.alloc _) _ rfl [.int .u8 (m : Int)] (Sl.one _ _ _) (one_byte _) c2 c3 (c4 _) ?_); intro v3 w3 ho3 hb3 hg3)
        have hb4 : Below w.heap.size w w3 := (hb.alloc (by omega) _).trans hb3
        have ho4 : Own w3 w.heap.size w3.heap.size 5 v3 (bs (xs ++ num n)) := by rw [← HS.out, bs_app]; exact ho3
        go_ret
        exact ⟨_, rfl, ho4, hb4⟩

/-- the bytes of texts, each behind its length -/
def tx (s : ByteArray) : List Int := num (s.size : Int) ++ sb s
def tot : List ByteArray → Nat
  | [] => 0
  | s :: r => s.size + tot r
def txs : List ByteArray → List Int
  | [] => []
  | s :: r => tx s ++ txs r
theorem tx_len (s : ByteArray) : (tx s).length ≤ s.size + 5 := by
  unfold tx; have := num_len (s.size : Int); rw [List.length_append, sb_len]; omega
theorem txs_len (l : List ByteArray) : (txs l).length ≤ 5 * l.length + tot l := by
  induction l with
  | nil => simp [txs, tot]
  | cons s r ih => have := tx_len s; simp only [txs, tot, List.length_append, List.length_cons]; omega
theorem tx_byt (s : ByteArray) : Byt (tx s) := (num_byt _).app (sb_byt _)

set_option maxRecDepth 1000000 in
set_option maxHeartbeats 1000000 in
theorem putt_spec (w : World) (v : Value) (xs : List Int) (s : ByteArray) (h : Sl w v (bs xs)) (hx : xs.length ≤ 35184372088832) (hs : s.size ≤ 35184372088832) :
    Calls Tryz.prog 19 #[v, .string s] w fun e w' => ∃ v', e = .returned v' ∧ Own w' w.heap.size w'.heap.size 5 v' (bs (xs ++ tx s)) ∧ Below w.heap.size w w' := by
  obtain ⟨i0, hi, hz0, hz1, hz2⟩ := info_parts info5
  have hnl := num_len (s.size : Int)
  go_enter Tryz.func19, Tryz.ntmps19
  go_wp2_with fail
  refine (put_spec w v xs _ h (by omega)).mono ?_
  rintro e w1 ⟨v1, rfl, ho1, hb1⟩
  have hsz := hb1.size
  have c1 : (xs ++ num (s.size : Int)).length + s.size ≤ 140737488355328 := by rw [List.length_append]; omega
  go_wp2_with (at_builtin; go_must (refine wpl_str _ rfl (.tmp 8) (.tmp 9) 47 9 rfl 5 i0 Tryz.underlying47 Tryz.underlying9 hi hz0 hz1 hz2 w.heap.size _ _ rfl ho1 s rfl c1 hsz ?_); intro v2 w2 ho2 hb2)
  go_ret
  rw [List.append_assoc] at ho2
  exact ⟨_, rfl, ho2, hb1.trans hb2⟩

set_option maxRecDepth 1000000 in
set_option maxHeartbeats 1000000 in
/-- addTexts, onto a row that the caller owns; the texts lie ahead of it, or there is one of them alone. -/
theorem texts_any (w : World) (lo : Nat) (v : Value) (xs : List Int) (vt : Value) (l : List ByteArray) (h : Own w lo w.heap.size 5 v (bs xs)) (hlo : lo ≤ w.heap.size) (ht : Sl w vt (ss l)) (hkeep : ∀ w', Below lo w w' → 1 < l.length → Sl w' vt (ss l))
    (hx : xs.length + (txs l).length ≤ 35184372088832) (hl : l.length ≤ 35184372088832) :
    Calls Tryz.prog 44 #[v, vt] w fun e w' => ∃ v', e = .returned v' ∧ Own w' lo w'.heap.size 5 v' (bs (xs ++ txs l)) ∧ Below lo w w' := by
  obtain ⟨i0, hi, hz0, hz1, hz2⟩ := info_parts info5
  obtain ⟨ao, cap, rfl, hc, hn, hr⟩ := ht
  rw [ss_len] at hr hc hkeep
  rw [ss_len]
  go_enter Tryz.func44, Tryz.ntmps44
  go_wp2
  go_loopw [0, 9] (fun b i wr => ∃ (k : Nat) (ys : List Int), k ≤ l.length ∧ i = .int .i64 k ∧ ys ++ txs (l.drop k) = xs ++ txs l ∧ Own wr lo wr.heap.size 5 b (bs ys) ∧ Below lo w wr ∧ (k = 0 → wr = w)) (fun _ i _ => l.length - (intOf i).toNat)
  case atStart => exact ⟨0, xs, Nat.zero_le _, rfl, rfl, h, Below.refl _ _, fun _ => rfl⟩
  case round =>
    obtain ⟨k, ys, hk, rfl, hE0, ho, hb, hfirst⟩ := hrel
    have HE : Hid (ys ++ txs (l.drop k) = xs ++ txs l) := hE0
    have hsz := hb.size
    by_cases hlt : k < l.length
    · obtain ⟨s, hs0⟩ : ∃ s, l[k]? = some s := ⟨l[k], by simp⟩
      have HD : Hid (l.drop k = s :: l.drop (k + 1)) := by
        obtain ⟨hk', rfl⟩ := List.getElem?_eq_some_iff.1 hs0
        exact List.drop_eq_getElem_cons hk'
      have hlen : ys.length + (tx s).length ≤ 35184372088832 := by
        have h1 := congrArg List.length HE.out
        rw [HD.out] at h1
        simp only [txs, List.length_append] at h1
        omega
      have htl : s.size ≤ (tx s).length := by unfold tx; rw [List.length_append, sb_len]; omega
      have hnl := num_len (s.size : Int)
      have hcl : ∃ b off, ao = some ⟨b, off, none⟩ ∧ wr.cell? ⟨b, off + k, none⟩ = some (.string s) := by
        have key : ∀ w0 : World, (0 < l.length → ∃ b off, ao = some ⟨b, off, none⟩ ∧ ∀ j, j < l.length → w0.cell? ⟨b, off + j, none⟩ = (ss l)[j]?) → ∃ b off, ao = some ⟨b, off, none⟩ ∧ w0.cell? ⟨b, off + k, none⟩ = some (.string s) := by
          intro w0 hq
          obtain ⟨b, off, he, hc⟩ := hq (by omega)
          exact ⟨b, off, he, by rw [hc k hlt]; simp [ss, hs0]⟩
        by_cases h0 : k = 0
        · rw [hfirst h0]; exact key w hr
        · obtain ⟨ao', cap', he, _, _, hr'⟩ := hkeep wr hb (by omega)
          rw [ss_len] at he hr'
          simp only [Value.slice.injEq] at he
          obtain ⟨rfl, _, rfl⟩ := he
          exact key wr hr'
      obtain ⟨b, off, rfl, hcell⟩ := hcl
      have HN : Hid ((ys ++ tx s) ++ txs (l.drop (k + 1)) = xs ++ txs l) := by
        show _ = _; rw [← HE.out, HD.out, List.append_assoc]; rfl
      clear hs0 HD hE0 HE hr hkeep hfirst h
      have hss : (s.size : Int) ≤ 35184372088832 := by omega
      go_wp2_with fail
      refine (nums_one _ lo _ ys wr.heap.size (s.size : Int) (ho.alloc _) (by simp; omega) (by omega) (new_cell _ _ _)).mono ?_
      rintro e w1 ⟨v1, rfl, ho1, hb1⟩
      have hb1' : Below lo w w1 := (hb.alloc (by omega) _).trans hb1
      have hsz1 : lo ≤ w1.heap.size := by have := hb1'.size; omega
      have c1 : (ys ++ num (s.size : Int)).length + s.size ≤ 140737488355328 := by rw [List.length_append]; omega
      go_wp2_with (at_builtin; go_must (refine wpl_str _ rfl (.tmp 17) (.tmp 18) 47 9 rfl 5 i0 Tryz.underlying47 Tryz.underlying9 hi hz0 hz1 hz2 lo _ _ rfl ho1 s rfl c1 hsz1 ?_); intro v2 w2 ho2 hb2)
      rw [List.append_assoc] at ho2
      have hb3 : Below lo w w2 := hb1'.trans hb2
      go_roundw
      case rel => exact ⟨k + 1, ys ++ tx s, by omega, by go_num, HN.out, ho2, hb3, fun h => by omega⟩
      case measure => simp [intOf]; omega
    · go_wp2
      go_ret
      have h1 := HE.out
      rw [List.drop_eq_nil_of_le (by omega)] at h1
      simp only [txs, List.append_nil] at h1
      rw [h1] at ho
      exact ⟨_, rfl, ho, hb⟩

theorem Sl.oneStr (w : World) (s : ByteArray) (t : TypeId) : Sl (w.alloc (.cells #[.string s] t)) (.slice (some ⟨w.heap.size, 0, none⟩) 1 1) (ss [s]) := Sl.one w (.string s) t

set_option maxRecDepth 1000000 in
set_option maxHeartbeats 1000000 in
theorem putt_impl (w : World) (v : Value) (xs : List Int) (s : ByteArray) (h : Sl w v (bs xs)) (hx : xs.length ≤ 10000000000000) (hs : s.size ≤ 10000000000000) :
    Calls Tryz.prog 25 #[v, .string s] w fun e w' => ∃ v', e = .returned v' ∧ Own w' w.heap.size w'.heap.size 5 v' (bs (xs ++ tx s)) ∧ Below w.heap.size w w' := by
  have htl := tx_len s
  go_enter Tryz.func25, Tryz.ntmps25
  go_wp2_with fail
  refine (own_any w v xs h (by omega)).mono ?_
  rintro e w1 ⟨v1, rfl, ho1, hb1⟩
  have hsz := hb1.size
  go_wp2_with fail
  refine (texts_any _ w.heap.size v1 xs _ [s] (ho1.alloc _) (by simp; omega) (Sl.oneStr _ _ _) (fun w' _ h => by simp at h) (by simp [txs]; omega) (by simp)).mono ?_
  rintro e w2 ⟨v2, rfl, ho2, hb2⟩
  go_wp2
  go_ret
  simp only [txs, List.append_nil] at ho2
  exact ⟨_, rfl, ho2, (hb1.alloc (by omega) _).trans hb2⟩

theorem drop_str {l : List ByteArray} {k : Nat} {s : ByteArray} (h : l[k]? = some s) : l.drop k = s :: l.drop (k + 1) := by
  obtain ⟨hk, rfl⟩ := List.getElem?_eq_some_iff.1 h
  exact List.drop_eq_getElem_cons hk

set_option maxRecDepth 1000000 in
set_option maxHeartbeats 1000000 in
theorem putts_spec (w : World) (v vt : Value) (xs : List Int) (l : List ByteArray) (h : Sl w v (bs xs)) (ht : Sl w vt (ss l)) (hx : xs.length + (txs l).length + 5 ≤ 10000000000000) (hl : l.length ≤ 10000000000000) :
    Calls Tryz.prog 18 #[v, vt] w fun e w' => ∃ v', e = .returned v' ∧ Own w' w.heap.size w'.heap.size 5 v' (bs (xs ++ num (l.length : Int) ++ txs l)) ∧ Below w.heap.size w w' := by
  have hlater : ∀ w', Below w.heap.size w w' → Sl w' vt (ss l) := fun w' hb => ht.later hb
  obtain ⟨ao, cap, rfl, hc, hn, hr⟩ := ht
  rw [ss_len] at hr hc hlater
  rw [ss_len]
  have hnl := num_len (l.length : Int)
  obtain ⟨R, hR⟩ : ∃ R, R = xs ++ num (l.length : Int) ++ txs l := ⟨_, rfl⟩
  have HR : Hid (xs ++ num (l.length : Int) ++ txs l = R) := hR.symm
  have hRl : R.length ≤ 10000000000000 := by rw [hR]; simp only [List.length_append]; omega
  clear hR hr hn
  go_enter Tryz.func18, Tryz.ntmps18
  go_wp2_with fail
  refine (put_spec w v xs _ h (by omega)).mono ?_
  rintro e w1 ⟨v1, rfl, ho1, hb1⟩
  go_wp2_with fail
  go_loopw [5, 6] (fun b i wr => ∃ (k : Nat) (ys : List Int), k ≤ l.length ∧ i = .int .i64 k ∧ ys ++ txs (l.drop k) = R ∧ Own wr w.heap.size wr.heap.size 5 b (bs ys) ∧ Below w.heap.size w wr) (fun _ i _ => l.length - (intOf i).toNat)
  case atStart => exact ⟨0, _, Nat.zero_le _, rfl, HR.out, ho1, hb1⟩
  case round =>
    obtain ⟨k, ys, hk, rfl, hE0, ho, hb⟩ := hrel
    have HE : Hid (ys ++ txs (l.drop k) = R) := hE0
    have hsz := hb.size
    clear hE0 ho1 hb1
    by_cases hlt : k < l.length
    · obtain ⟨ao', cap', he, _, _, hr'⟩ := hlater wr hb
      rw [ss_len] at he hr'
      simp only [Value.slice.injEq] at he
      obtain ⟨rfl, _, rfl⟩ := he
      obtain ⟨b, off, s, rfl, hx0, hcell⟩ := Sl.strAt hr' rfl hlt
      have HN : Hid ((ys ++ tx s) ++ txs (l.drop (k + 1)) = R) := by
        show _ = _; rw [← HE.out, drop_str hx0, List.append_assoc]; rfl
      have hlen : ys.length + (tx s).length ≤ 10000000000000 := by
        have h1 := congrArg List.length HN.out
        simp only [List.length_append] at h1
        omega
      have htl : s.size ≤ (tx s).length := by unfold tx; rw [List.length_append, sb_len]; omega
      clear hx0 hr' hlater HR HE
      go_wp2_with fail
      refine (putt_spec wr _ ys s ho.sl (by omega) (by omega)).mono ?_
      rintro e w2 ⟨v2, rfl, ho2, hb2⟩
      have ho3 := ho2.mono hsz (Nat.le_refl _)
      have hb3 : Below w.heap.size w w2 := hb.trans (hb2.mono hsz)
      go_wp2
      go_roundw
      case rel => exact ⟨k + 1, ys ++ tx s, by omega, by go_num, HN.out, ho3, hb3⟩
      case measure => simp [intOf]; omega
    · go_wp2
      go_ret
      have h1 := HE.out
      rw [List.drop_eq_nil_of_le (by omega)] at h1
      simp only [txs, List.append_nil] at h1
      rw [HR.out, ← h1]
      exact ⟨_, rfl, ho, hb⟩

set_option maxRecDepth 1000000 in
set_option maxHeartbeats 1000000 in
theorem putts_impl (w : World) (v vt : Value) (xs : List Int) (l : List ByteArray) (h : Sl w v (bs xs)) (ht : Sl w vt (ss l)) (hx : xs.length + (txs l).length + 5 ≤ 10000000000000) (hl : l.length ≤ 10000000000000) :
    Calls Tryz.prog 24 #[v, vt] w fun e w' => ∃ v', e = .returned v' ∧ Own w' w.heap.size w'.heap.size 5 v' (bs (xs ++ num (l.length : Int) ++ txs l)) ∧ Below w.heap.size w w' := by
  have hlater : ∀ w', Below w.heap.size w w' → Sl w' vt (ss l) := fun w' hb => ht.later hb
  obtain ⟨ao, cap, rfl, hc, hn, hr⟩ := ht
  rw [ss_len] at hr hc hlater
  rw [ss_len]
  have hnl := num_len (l.length : Int)
  go_enter Tryz.func24, Tryz.ntmps24
  go_wp2_with fail
  refine (own_any w v xs h (by omega)).mono ?_
  rintro e w1 ⟨v1, rfl, ho1, hb1⟩
  have hsz := hb1.size
  go_wp2_with fail
  refine (nums_one _ w.heap.size v1 xs w1.heap.size (l.length : Int) (ho1.alloc _) (by simp; omega) (by omega) (new_cell _ _ _)).mono ?_
  rintro e w2 ⟨v2, rfl, ho2, hb2⟩
  have hb3 : Below w.heap.size w w2 := (hb1.alloc (by omega) _).trans hb2
  have hsz2 := hb3.size
  go_wp2_with fail
  refine (texts_any w2 w.heap.size v2 _ _ l ho2 hsz2 (hlater _ hb3) (fun w' hb _ => hlater w' (hb3.trans hb)) (by rw [List.length_append]; omega) (by omega)).mono ?_
  rintro e w4 ⟨v4, rfl, ho4, hb4⟩
  go_wp2
  go_ret
  exact ⟨_, rfl, ho4, hb3.trans hb4⟩

end Go.Proofs.YtepcpnnnhdbjgamGreatDoor.Puts

/- Chapter 5, the specification's side: an entry's text. -/
namespace Go.Proofs.YtepcpnnnhdbjgamGreatDoor.Ent
open Go.RowKit Go.Proofs.YtepcpnnnhdbjgamGreatDoor.Mem Go.Proofs.YtepcpnnnhdbjgamGreatDoor.Laws Go.Proofs.YtepcpnnnhdbjgamGreatDoor.Bytes Go.Proofs.YtepcpnnnhdbjgamGreatDoor.Sha Go.Proofs.YtepcpnnnhdbjgamGreatDoor.Ver Go.Proofs.YtepcpnnnhdbjgamGreatDoor.Mod
set_option linter.unusedVariables false
set_option linter.unusedSimpArgs false

/-- an entry's text -/
def put5 (n : Nd) (l : List Nd) : ByteArray := if entry5 n l = true then Plain.txt (Puts.tx (name5 n) ++ Puts.num (l.length : Int) ++ Puts.txs (l.map name5)) else ⟨#[]⟩

theorem name5_size {n : Nd} : (name5 n).size ≤ n.path.size + n.pre.size + 100 := by
  unfold name5
  split
  · rw [ByteArray.size_append, ByteArray.size_append, txt_sizev]
    have h1 : (⟨#[64]⟩ : ByteArray).size = 1 := rfl
    have : (verText n.a n.b n.c n.pre).length ≤ n.pre.size + 50 := by
      unfold verText vt
      split
      · have h6 : ∀ m, (digF 6 m).length ≤ 7 := fun m => (digF_len 6 m).2
        have := h6 n.a.toNat
        have := h6 n.b.toNat
        have := h6 n.c.toNat
        split <;> simp [sb_len] <;> omega
      · simp
    omega
  · exact Nat.zero_le _
theorem txs_byt5 : ∀ l : List ByteArray, Byt (Puts.txs l) := by
  intro l
  induction l with
  | nil => intro x hx; cases hx
  | cons s r ih => exact (Puts.tx_byt s).app ih
theorem keepB {W W' : World} {p : Addr} {x : Value} {B : Nat} (h : W.cell? p = some x) (b : Below B W W') (hp : p.block < B) : W'.cell? p = some x := (b.cell hp).trans h
theorem tot_name (l : List Nd) (h : ∀ x ∈ l, x.path.size ≤ 1048576 ∧ x.pre.size ≤ 1048576) : Puts.tot (l.map name5) ≤ l.length * 2100000 := by
  induction l with
  | nil => simp [Puts.tot]
  | cons x r ih =>
    have h1 := h x (by simp)
    have h2 := name5_size (n := x)
    have h3 := ih (fun y hy => h y (by simp [hy]))
    simp only [List.map_cons, Puts.tot, List.length_cons]
    omega

set_option maxRecDepth 1000000 in
set_option maxHeartbeats 4000000 in
theorem put_spec5 (w : World) (n : Nd) (v : Value) (l : List Nd) (h : Sd w v l) (hl : l.length ≤ 1048576) (hp : n.path.size ≤ 1048576) (hq : n.pre.size ≤ 1048576) (hz : ∀ n ∈ l, n.path.size ≤ 1048576 ∧ n.pre.size ≤ 1048576) :
    Calls Tryz.prog 6 #[.agg #[.string n.path, .int .i64 n.a, .int .i64 n.b, .int .i64 n.c, .string n.pre, v]] w fun e w' => e = .returned (.string (put5 n l)) ∧ Below w.heap.size w w' := by
  obtain ⟨i0, hi, hz0, hz1, hz2⟩ := info_parts info9v
  have HD : Hid (put5 n l = if entry5 n l = true then Plain.txt (Puts.tx (name5 n) ++ Puts.num (l.length : Int) ++ Puts.txs (l.map name5)) else ⟨#[]⟩) := rfl
  have HB : Hid (Below w.heap.size w (w.alloc (.cells #[.string n.path, .int .i64 n.a, .int .i64 n.b, .int .i64 n.c, .string n.pre, v] 32))) := (Below.refl _ _).alloc (Nat.le_refl _) _
  have HR : Hid ((w.alloc (.cells #[.string n.path, .int .i64 n.a, .int .i64 n.b, .int .i64 n.c, .string n.pre, v] 32)).heap[w.heap.size]? = some (.cells (ec n v) 32 (0, 0))) := heap_alloc_new w _
  have q0 := entryok_spec (w.alloc (.cells #[.string n.path, .int .i64 n.a, .int .i64 n.b, .int .i64 n.c, .string n.pre, v] 32)) n v l (h.later HB.out) (by omega) (by omega) (by omega) (fun x hx => by have := hz x hx; omega)
  have HS : Hid (Sd w v l) := h
  have HZ : Hid (∀ n ∈ l, n.path.size ≤ 1048576 ∧ n.pre.size ≤ 1048576) := hz
  have HT := tot_name l hz
  obtain ⟨hcl, ao, cap, rfl, hcap, hnn, _⟩ := h
  clear hz
  obtain ⟨ok, hok⟩ : ∃ ok, entry5 n l = ok := ⟨_, rfl⟩
  rw [hok] at q0 HD
  have HOK : Hid (entry5 n l = ok) := hok
  clear hok
  go_enter Tryz.func6, Tryz.ntmps6
  go_wp2_with fail
  refine q0.mono ?_
  rintro e w1 ⟨rfl, b1⟩
  have r1 := rowKeep HR.out b1
  have hB1 : Below w.heap.size w w1 := HB.out.trans (b1.mono HB.out.size)
  clear q0 HR HB b1
  cases ok
  · have HN : Hid (put5 n l = ⟨#[]⟩) := HD.out
    go_wp2
    go_ret
    exact ⟨by rw [HN.out]; rfl, hB1⟩
  have HN : Hid (put5 n l = Plain.txt (Puts.tx (name5 n) ++ Puts.num (l.length : Int) ++ Puts.txs (l.map name5))) := HD.out
  clear HD
  have hlt1 : w.heap.size < w1.heap.size := (Array.getElem?_eq_some_iff.1 r1).1
  have HO0 : Hid (Own (w1.alloc (.cells #[] 9)) w1.heap.size (w1.alloc (.cells #[] 9)).heap.size 9 (.slice (some ⟨w1.heap.size, 0, none⟩) 0 0) (ss [])) := emptySv w1 _ (Nat.le_refl _)
  have HR1 : Hid ((w1.alloc (.cells #[] 9)).heap[w.heap.size]? = some (.cells (ec n (.slice ao l.length cap)) 32 (0, 0))) := rowKeep r1 ((Below.refl _ _).alloc (Nat.le_refl _) _)
  have HB1 : Hid (Below w.heap.size w (w1.alloc (.cells #[] 9))) := hB1.alloc hB1.size _
  clear r1 hB1
  go_wp2
  go_loopw [3, 4] (fun vn i wr => ∃ k : Nat, k ≤ l.length ∧ i = .int .i64 (k : Int) ∧ w1.heap.size ≤ wr.heap.size ∧ Own wr w1.heap.size wr.heap.size 9 vn (ss ((l.take k).map name5)) ∧ wr.heap[w.heap.size]? = some (.cells (ec n (.slice ao l.length cap)) 32 (0, 0)) ∧ Below w.heap.size w wr) (fun _ i _ => l.length - (intOf i).toNat)
  case atStart => exact ⟨0, Nat.zero_le _, rfl, by simp, HO0.out, HR1.out, HB1.out⟩
  case round =>
    obtain ⟨k, hk, rfl, hs1, ho, hR, hB⟩ := hrel
    clear HO0 HR1 HB1
    have k5 : wr.cell? ⟨w.heap.size, 5, none⟩ = some (.slice ao l.length cap) := row_cells hR 5
    by_cases hlt : k < l.length
    · obtain ⟨x, hn⟩ : ∃ n, l[k]? = some n := ⟨l[k], by simp [hlt]⟩
      obtain ⟨b, off, cap', he, _, c0, c1, c2, c3, c4⟩ := Sd.at (HS.out.later hB) hn
      have hbl : b < w.heap.size := by
        obtain ⟨b', off', _, he', _, c0', _⟩ := Sd.at HS.out hn
        simp only [Value.slice.injEq] at he he'
        obtain ⟨rfl, _, rfl⟩ := he
        simp only [Option.some.injEq, Addr.mk.injEq] at he'
        obtain ⟨⟨rfl, rfl, _⟩, _⟩ := he'
        exact World.block_lt_of_cell? w _ c0'
      simp only [Value.slice.injEq] at he
      obtain ⟨rfl, _, rfl⟩ := he
      have hxz := HZ.out x (List.mem_of_getElem? hn)
      have q1 : ∀ W, _ := fun W => name_spec W x (by omega) (by omega)
      have HTk : Hid (l.take (k + 1) = l.take k ++ [x]) := by show _ = _; rw [List.take_add_one, hn]; rfl
      have HRr : Hid (wr.heap[w.heap.size]? = some (.cells (ec n (.slice (some ⟨b, off, none⟩) l.length cap)) 32 (0, 0))) := hR
      have hln : ((l.take k).map name5).length = k := by simp; omega
      have c6 : (ss ((l.take k).map name5)).length + 1 ≤ maxLen := by rw [ss_len, hln]; unfold maxLen; omega
      have c7 : ((ss ((l.take k).map name5)).length + 1) * 16 ≤ 140737488355328 := by rw [ss_len, hln]; omega
      clear hn hR hln
      go_wp2_with fail
      refine wp_region_held_drew (S := fun w' => w'.cell? ⟨w.heap.size, 5, none⟩ = some (.slice (some ⟨b, off, none⟩) l.length cap) ∧ w'.cell? ⟨b, off + k * 5, none⟩ = some (.string x.path) ∧ w'.cell? ⟨b, off + k * 5 + 1, none⟩ = some (.int .i64 x.a) ∧ w'.cell? ⟨b, off + k * 5 + 2, none⟩ = some (.int .i64 x.b) ∧ w'.cell? ⟨b, off + k * 5 + 3, none⟩ = some (.int .i64 x.c) ∧ w'.cell? ⟨b, off + k * 5 + 4, none⟩ = some (.string x.pre)) (by kernel_rfl) ⟨k5, c0, c1, c2, c3, c4⟩ (fun hHeld => ?_)
      (refine wpAnyH_take (i := 0) (v := ?v0x1) rfl (by kernel_rfl) (by kernel_rfl) (by kernel_rfl) (fun _ _ _ h => h) (Or.inl ⟨by rfl, ?hy0x1⟩) (by assumption) ?rest0x1; case hy0x1 => (intro w hSw; (try dsimp only at hSw); go_split_ands; go_simp; (try with_reducible rfl)))
      try simp only [Act.put, List.setIfInBounds_toArray, List.set_cons_zero, List.set_cons_succ, List.getElem_toArray, List.getElem_cons_zero, List.getElem_cons_succ]
      (refine wpAnyH_take (i := 1) (v := ?v1x2) rfl (by kernel_rfl) (by kernel_rfl) (by kernel_rfl) (fun _ _ _ h => h) (Or.inl ⟨by rfl, ?hy1x2⟩) (by assumption) ?rest1x2; case hy1x2 => (intro w hSw; (try dsimp only at hSw); go_split_ands; go_simp; (try with_reducible rfl)))
      try simp only [Act.put, List.setIfInBounds_toArray, List.set_cons_zero, List.set_cons_succ, List.getElem_toArray, List.getElem_cons_zero, List.getElem_cons_succ]
      (refine wpAnyH_take (i := 2) (v := ?v2x3) rfl (by kernel_rfl) (by kernel_rfl) (by kernel_rfl) (fun _ _ _ h => h) (Or.inl ⟨by rfl, ?hy2x3⟩) (by assumption) ?rest2x3; case hy2x3 => (intro w hSw; (try dsimp only at hSw); go_split_ands; go_simp; (try with_reducible rfl)))
      try simp only [Act.put, List.setIfInBounds_toArray, List.set_cons_zero, List.set_cons_succ, List.getElem_toArray, List.getElem_cons_zero, List.getElem_cons_succ]
      (refine wpAnyH_take (i := 3) (v := ?v3x4) rfl (by kernel_rfl) (by kernel_rfl) (by kernel_rfl) (fun _ _ _ h => h) (Or.inl ⟨by rfl, ?hy3x4⟩) (by assumption) ?rest3x4; case hy3x4 => (intro w hSw; (try dsimp only at hSw); go_split_ands; go_simp; (try with_reducible rfl)))
      try simp only [Act.put, List.setIfInBounds_toArray, List.set_cons_zero, List.set_cons_succ, List.getElem_toArray, List.getElem_cons_zero, List.getElem_cons_succ]
      (refine wpAnyH_take (i := 4) (v := ?v4x5) rfl (by kernel_rfl) (by kernel_rfl) (by kernel_rfl) (fun _ _ _ h => h) (Or.inl ⟨by rfl, ?hy4x5⟩) (by assumption) ?rest4x5; case hy4x5 => (intro w hSw; (try dsimp only at hSw); go_split_ands; go_simp; (try with_reducible rfl)))
      try simp only [Act.put, List.setIfInBounds_toArray, List.set_cons_zero, List.set_cons_succ, List.getElem_toArray, List.getElem_cons_zero, List.getElem_cons_succ]
      (refine wpAnyH_take (i := 5) (v := ?v5x6) rfl (by kernel_rfl) (by kernel_rfl) (by kernel_rfl) (fun _ _ _ h => h) (Or.inl ⟨by rfl, ?hy5x6⟩) (by assumption) ?rest5x6; case hy5x6 => (intro w hSw; (try dsimp only at hSw); go_split_ands; go_simp; (try with_reducible rfl)))
      try simp only [Act.put, List.setIfInBounds_toArray, List.set_cons_zero, List.set_cons_succ, List.getElem_toArray, List.getElem_cons_zero, List.getElem_cons_succ]
      (refine wpAnyH_take (i := 6) (v := ?v6x7) rfl (by kernel_rfl) (by kernel_rfl) (by kernel_rfl) (fun _ _ _ h => h) (Or.inl ⟨by rfl, ?hy6x7⟩) (by assumption) ?rest6x7; case hy6x7 => (intro w hSw; (try dsimp only at hSw); go_split_ands; go_simp; (try with_reducible rfl)))
      try simp only [Act.put, List.setIfInBounds_toArray, List.set_cons_zero, List.set_cons_succ, List.getElem_toArray, List.getElem_cons_zero, List.getElem_cons_succ]
      (refine wpAnyH_take (i := 7) (v := ?v7x8) rfl (by kernel_rfl) (by kernel_rfl) (by kernel_rfl) (fun _ _ _ h => h) (Or.inl ⟨by rfl, ?hy7x8⟩) (by assumption) ?rest7x8; case hy7x8 => (intro w hSw; (try dsimp only at hSw); go_split_ands; go_simp; (try with_reducible rfl)))
      try simp only [Act.put, List.setIfInBounds_toArray, List.set_cons_zero, List.set_cons_succ, List.getElem_toArray, List.getElem_cons_zero, List.getElem_cons_succ]
      (refine wpAnyH_take (i := 8) (v := ?v8x9) rfl (by kernel_rfl) (by kernel_rfl) (by kernel_rfl) (fun _ _ _ h => h) (Or.inl ⟨by rfl, ?hy8x9⟩) (by assumption) ?rest8x9; case hy8x9 => (intro w hSw; (try dsimp only at hSw); go_split_ands; go_simp; (try with_reducible rfl)))
      try simp only [Act.put, List.setIfInBounds_toArray, List.set_cons_zero, List.set_cons_succ, List.getElem_toArray, List.getElem_cons_zero, List.getElem_cons_succ]
      (refine wpAnyH_take (i := 9) (v := ?v9x10) rfl (by kernel_rfl) (by kernel_rfl) (by kernel_rfl) (fun _ _ _ h => h) (Or.inl ⟨by rfl, ?hy9x10⟩) (by assumption) ?rest9x10; case hy9x10 => (intro w hSw; (try dsimp only at hSw); go_split_ands; go_simp; (try with_reducible rfl)))
      try simp only [Act.put, List.setIfInBounds_toArray, List.set_cons_zero, List.set_cons_succ, List.getElem_toArray, List.getElem_cons_zero, List.getElem_cons_succ]
      (refine wpAnyH_take (i := 10) (v := ?v10x11) rfl (by kernel_rfl) (by kernel_rfl) (by kernel_rfl) (fun _ _ _ h => h) (Or.inl ⟨by rfl, ?hy10x11⟩) (by assumption) ?rest10x11; case hy10x11 => (intro w hSw; (try dsimp only at hSw); go_split_ands; go_simp; (try with_reducible rfl)))
      try simp only [Act.put, List.setIfInBounds_toArray, List.set_cons_zero, List.set_cons_succ, List.getElem_toArray, List.getElem_cons_zero, List.getElem_cons_succ]
      (refine wpAnyH_take (i := 11) (v := ?v11x12) rfl (by kernel_rfl) (by kernel_rfl) (by kernel_rfl) (fun _ _ _ h => h) (Or.inl ⟨by rfl, ?hy11x12⟩) (by assumption) ?rest11x12; case hy11x12 => (intro w hSw; (try dsimp only at hSw); go_split_ands; go_simp; (try with_reducible rfl)))
      try simp only [Act.put, List.setIfInBounds_toArray, List.set_cons_zero, List.set_cons_succ, List.getElem_toArray, List.getElem_cons_zero, List.getElem_cons_succ]
      (refine wpAnyH_take (i := 12) (v := ?v12x13) rfl (by kernel_rfl) (by kernel_rfl) (by kernel_rfl) (fun _ _ _ h => h) (Or.inl ⟨by rfl, ?hy12x13⟩) (by assumption) ?rest12x13; case hy12x13 => (intro w hSw; (try dsimp only at hSw); go_split_ands; go_simp; (try with_reducible rfl)))
      try simp only [Act.put, List.setIfInBounds_toArray, List.set_cons_zero, List.set_cons_succ, List.getElem_toArray, List.getElem_cons_zero, List.getElem_cons_succ]
      refine wpAnyH_ready (rs := [13]) (by kernel_rfl) (by simp) ?_
      refine AllReadyH.cons rfl (fun K hK => ?_) AllReadyH.nil
      go_simp
      refine (q1 _).mono ?_
      rintro e w4 ⟨rfl, b4⟩
      refine hK.out _ _ ?_ (fun hHeld => ?_)
      · obtain ⟨s0, s1, s2, s3, s4, s5⟩ := hHeld; exact ⟨Ver.keepCell s0 b4, Ver.keepCell s1 b4, Ver.keepCell s2 b4, Ver.keepCell s3 b4, Ver.keepCell s4 b4, Ver.keepCell s5 b4⟩
      clear hK K
      try simp only [Act.put, List.setIfInBounds_toArray, List.set_cons_zero, List.set_cons_succ, List.getElem_toArray, List.getElem_cons_zero, List.getElem_cons_succ]
      have ho4 : ∀ o, Own (w4.alloc o) w1.heap.size (w4.alloc o).heap.size 9 _ (ss ((l.take k).map name5)) := fun o => Own.alloc (((show Own wr.drew w1.heap.size wr.drew.heap.size 9 _ (ss ((l.take k).map name5)) from ho).later b4 (Nat.le_refl _)).mono (Nat.le_refl _) b4.size) o
      have c8 : ∀ o, w1.heap.size ≤ (w4.alloc o).heap.size := fun o => by have := b4.size; simp; have h9 : wr.drew.heap.size = wr.heap.size := rfl; omega
      refine wpAnyH_ready (rs := [14]) (by kernel_rfl) (by simp) ?_
      refine AllReadyH.cons rfl (fun K hK => ?_) AllReadyH.nil
      go_simp
      refine hK.out _ _ ?_ (fun hHeld => ?_)
      · obtain ⟨s0, s1, s2, s3, s4, s5⟩ := hHeld; exact ⟨Ver.keepCell s0 ((Below.refl _ _).alloc (Nat.le_refl _) _), Ver.keepCell s1 ((Below.refl _ _).alloc (Nat.le_refl _) _), Ver.keepCell s2 ((Below.refl _ _).alloc (Nat.le_refl _) _), Ver.keepCell s3 ((Below.refl _ _).alloc (Nat.le_refl _) _), Ver.keepCell s4 ((Below.refl _ _).alloc (Nat.le_refl _) _), Ver.keepCell s5 ((Below.refl _ _).alloc (Nat.le_refl _) _)⟩
      clear hK K
      try simp only [Act.put, List.setIfInBounds_toArray, List.set_cons_zero, List.set_cons_succ, List.getElem_toArray, List.getElem_cons_zero, List.getElem_cons_succ]
      refine wpAnyH_ready (rs := [15]) (by kernel_rfl) (by simp) ?_
      refine AllReadyH.cons rfl (fun K hK => ?_) AllReadyH.nil
      refine step_app (by rfl) (.tmp 16) (.tmp 30) 43 (by rfl) 9 i0 (.string ⟨#[]⟩) 16 Tryz.underlying43 hi hz0 hz1 hz2 rfl w1.heap.size _ _ (by rfl) (ho4 _) _ (by rfl) _ (Laws.Sl.one w4 _ _) (one_strv _) c6 c7 (c8 _) ?_
      intro v5 w5 ho5 hb5
      refine hK.out _ _ ?_ (fun hHeld => ?_)
      · obtain ⟨s0, s1, s2, s3, s4, s5⟩ := hHeld; exact ⟨keepB s0 hb5 hlt1, keepB s1 hb5 (Nat.lt_trans hbl hlt1), keepB s2 hb5 (Nat.lt_trans hbl hlt1), keepB s3 hb5 (Nat.lt_trans hbl hlt1), keepB s4 hb5 (Nat.lt_trans hbl hlt1), keepB s5 hb5 (Nat.lt_trans hbl hlt1)⟩
      clear hK K
      try simp only [Act.put, List.setIfInBounds_toArray, List.set_cons_zero, List.set_cons_succ, List.getElem_toArray, List.getElem_cons_zero, List.getElem_cons_succ]
      (refine wpAnyH_take (i := 16) (v := ?v16x14) rfl (by kernel_rfl) (by kernel_rfl) (by kernel_rfl) (fun _ _ _ h => h) (Or.inl ⟨by rfl, ?hy16x14⟩) (by assumption) ?rest16x14; case hy16x14 => (intro w hSw; (try dsimp only at hSw); go_split_ands; go_simp; (try with_reducible rfl)))
      try simp only [Act.put, List.setIfInBounds_toArray, List.set_cons_zero, List.set_cons_succ, List.getElem_toArray, List.getElem_cons_zero, List.getElem_cons_succ]
      refine wpAnyH_done (by kernel_rfl) ?_ _
      have hBd : Below w.heap.size w wr.drew := Below.drew hB
      have hB4 : Below w.heap.size w w4 := hBd.trans (b4.mono hBd.size)
      have hB5 : Below w.heap.size w w5 := (hB4.alloc hB4.size _).trans (hb5.mono (by omega))
      have hR4 : w4.heap[w.heap.size]? = some (.cells (ec n (.slice (some ⟨b, off, none⟩) l.length cap)) 32 (0, 0)) := rowKeep (w := wr.drew) HRr.out b4
      have hR5 : w5.heap[w.heap.size]? = some (.cells (ec n (.slice (some ⟨b, off, none⟩) l.length cap)) 32 (0, 0)) := (hb5.block _ hlt1).trans (rowKeep hR4 ((Below.refl _ _).alloc (Nat.le_refl _) _))
      have ho6 : Own w5 w1.heap.size w5.heap.size 9 v5 (ss ((l.take (k + 1)).map name5)) := by rw [HTk.out, List.map_append, ss_app]; exact ho5
      have hs5 : w1.heap.size ≤ w5.heap.size := Nat.le_trans (Nat.le_trans hs1 b4.size) (Nat.le_trans (by simp) hb5.size)
      clear hHeld ho ho4 ho5 hb5 b4 hB hBd hB4 hR4 HRr c0 c1 c2 c3 c4 c6 c7 c8 k5 q1
      go_wp2
      go_roundw
      case rel => exact ⟨k + 1, by omega, by go_num, hs5, ho6, hR5, hB5⟩
      case measure => simp [intOf]; omega
    · have ho7 := ho
      rw [List.take_of_length_le (show l.length ≤ k by omega)] at ho7
      have k0 : wr.cell? ⟨w.heap.size, 0, none⟩ = some (.string n.path) := row_cells hR 0
      have k1 : wr.cell? ⟨w.heap.size, 1, none⟩ = some (.int .i64 n.a) := row_cells hR 1
      have k2 : wr.cell? ⟨w.heap.size, 2, none⟩ = some (.int .i64 n.b) := row_cells hR 2
      have k3 : wr.cell? ⟨w.heap.size, 3, none⟩ = some (.int .i64 n.c) := row_cells hR 3
      have k4 : wr.cell? ⟨w.heap.size, 4, none⟩ = some (.string n.pre) := row_cells hR 4
      have HO7 : Hid _ := ho7
      clear ho ho7 hR
      have hlw : w.heap.size < wr.heap.size := World.block_lt_of_cell? wr _ k0
      have e0 := Ver.keepCell k0 ((Below.refl _ _).alloc (Nat.le_refl _) (.cells #[] 5))
      have e1 := Ver.keepCell k1 ((Below.refl _ _).alloc (Nat.le_refl _) (.cells #[] 5))
      have e2 := Ver.keepCell k2 ((Below.refl _ _).alloc (Nat.le_refl _) (.cells #[] 5))
      have e3 := Ver.keepCell k3 ((Below.refl _ _).alloc (Nat.le_refl _) (.cells #[] 5))
      have e4 := Ver.keepCell k4 ((Below.refl _ _).alloc (Nat.le_refl _) (.cells #[] 5))
      have HB6 : Hid (Below w.heap.size w (wr.alloc (.cells #[] 5))) := hB.alloc hB.size _
      have HB0 : Hid (Below wr.heap.size wr (wr.alloc (.cells #[] 5))) := (Below.refl _ _).alloc (Nat.le_refl _) _
      have HE0 : Hid (Sl (wr.alloc (.cells #[] 5)) (.slice (some ⟨wr.heap.size, 0, none⟩) 0 0) (bs [])) := (Puts.Own.empty wr wr.heap.size (Nat.le_refl _)).sl
      have hnz := name5_size (n := n)
      have q2 := name_spec (wr.alloc (.cells #[] 5)) n (by omega) (by omega)
      have HL : Hid ((Puts.txs (l.map name5)).length ≤ 5 * l.length + l.length * 2100000) := by
        have := Puts.txs_len (l.map name5)
        rw [List.length_map] at this
        show _ ≤ _
        omega
      clear k0 k1 k2 k3 k4
      go_wp2_with fail
      refine q2.mono ?_
      rintro e w6 ⟨rfl, b6⟩
      have q3 := Puts.putt_spec w6 (.slice (some ⟨wr.heap.size, 0, none⟩) 0 0) [] (name5 n) (HE0.out.later b6) (by simp) (by omega)
      have hB6 : Below w.heap.size w w6 := HB6.out.trans (b6.mono HB6.out.size)
      have s6 : Sl w6 _ (ss (l.map name5)) := ((Mem.Own.sl HO7.out).later HB0.out).later b6
      have HS6 : Hid _ := s6
      clear e0 e1 e2 e3 e4 q2 b6 HB6 HB0 HE0 s6 HO7
      go_wp2_with fail
      refine q3.mono ?_
      rintro e w7 ⟨v7, rfl, o7, b7⟩
      have hB7 : Below w.heap.size w w7 := hB6.trans (b7.mono hB6.size)
      have htx := Puts.tx_len (name5 n)
      have q4 := Puts.putts_spec w7 v7 _ ([] ++ Puts.tx (name5 n)) (l.map name5) o7.sl (Mem.Sl.later HS6.out b7) (by have := HL.out; simp; omega) (by simp; omega)
      clear q3 o7 b7 hB6 HS6
      go_wp2_with fail
      refine q4.mono ?_
      rintro e w8 ⟨v8, rfl, o8, b8⟩
      have hB8 : Below w.heap.size w w8 := hB7.trans (b8.mono hB7.size)
      rw [List.nil_append, List.length_map] at o8
      have hcv := conv_sl (w := w8) o8.sl (((Puts.tx_byt _).app (Puts.num_byt _)).app (txs_byt5 _))
      go_wp2
      go_ret
      exact ⟨by rw [HN.out, List.append_assoc]; rfl, hB8⟩

end Go.Proofs.YtepcpnnnhdbjgamGreatDoor.Ent
