/- Texts in one: Mo4, ImpE, OrdP, SeD. -/
import Derived.Test.YtlhmemnaiobgkaaGreatDoorPq33
import Derived.Test.YtlhmemnaiobgkaaGreatDoorPq8
import Derived.Test.YtlhmemnaiobgkaaGreatDoorPq29
import Derived.Test.YtlhmemnaiobgkaaGreatDoorPq6
import Derived.Test.YtlhmemnaiobgkaaGreatDoorPq32
import Derived.Test.YtlhmemnaiobgkaaGreatDoorPq13
import Derived.Test.YtlhmemnaiobgkaaGreatDoorPq18
import Derived.WideMake
import Derived.Deep.DeepCutAuto
/- Chapter 16, the landed code: the latest of each path. -/
namespace Go.Proofs.YtlhmemnaiobgkaaGreatDoor.Se
open Go.RowKit Go.Proofs.YtlhmemnaiobgkaaGreatDoor.Mem Go.Proofs.YtlhmemnaiobgkaaGreatDoor.Laws Go.Proofs.YtlhmemnaiobgkaaGreatDoor.Ver Go.Proofs.YtlhmemnaiobgkaaGreatDoor.Ent Go.Proofs.YtlhmemnaiobgkaaGreatDoor.Fe
set_option linter.unusedVariables false
set_option linter.unusedSimpArgs false

/-- what a map answers at a path -/
def AtG (G : List (ByteArray × Value)) (p : ByteArray) (v : Value) : Prop := (p ∉ G.map Prod.fst ∧ v = .slice none 0 0) ∨ ∃ k : Nat, G[k]? = some (p, v)
theorem look_at (b : Nat) (G : List (ByteArray × Value)) (p : ByteArray) : ∃ v, AtG G p v ∧ ∀ w, Mg w b G → (Instr.lookup 110 (.map (some b)) (.string p) false).run Tryz.prog w = .ok v w := by
  have hc := fun w e => MapKept.run_checkKey (P := Tryz.prog) (w := w) (kt := 9) (k := .string p) Tryz.underlying9 trivial e 9999
  rcases findG p G 0 0 with ⟨h1, h2⟩ | ⟨k, v, h1, h2⟩
  · exact ⟨_, .inl ⟨h1, rfl⟩, fun w hb => by
      have hb' : w.heap[b]? = some (.map (entG G 0).toArray G.length) := hb
      simp [Instr.lookup, run_underlying mapG, MapKept.run_getObj_map hb', hc w, MapKept.run_findKey Tryz.underlying9 h2, Result.andThen, zeroG]⟩
  · exact ⟨v, .inr ⟨k, h1⟩, fun w hb => by
      have hb' : w.heap[b]? = some (.map (entG G 0).toArray G.length) := hb
      simp [Instr.lookup, run_underlying mapG, MapKept.run_getObj_map hb', hc w, MapKept.run_findKey Tryz.underlying9 h2, Result.andThen]⟩
theorem AtG.own {w : World} {lo : Nat} {G : List (ByteArray × Value)} {row : List Nd} {p : ByteArray} {v : Value} (h : Gr w lo G row) (ha : AtG G p v) : Ow w lo w.heap.size v (fl p row) := by
  rcases ha with ⟨h1, rfl⟩ | ⟨k, h1⟩
  · rw [fl_none (fun h9 => h1 (by rw [h.keys]; exact key_mem.2 h9))]
    exact On.nil 4 _ _ _ _
  · exact h.own _ (List.mem_of_getElem? h1)
/-- one more version is put into the map -/
theorem Gr.step {w w' : World} {b lo : Nat} {G : List (ByteArray × Value)} {row : List Nd} {q : Nd} {v0 v : Value} (h : Gr w lo G row) (hb : Mg w b G) (ha : AtG G q.path v0) (g : w.grownBy w' v0.ownBlock) (o : Ow w' lo w'.heap.size v (fl q.path row ++ [q])) (hat : v.ownBlock = v0.ownBlock ∨ v.ownBlock = some w.heap.size) :
    ∃ G' w'', (Instr.mapUpdate 110 (.map (some b)) (.string q.path) v).run Tryz.prog w' = .ok () w'' ∧ Mg w'' b G' ∧ Gr w'' lo G' (row ++ [q]) ∧ w'.grownBy w'' (some b) ∧ w''.heap.size = w'.heap.size := by
  have hm' : Mg w' b G := hb.gro g (On.neMap (AtG.own h ha) hb)
  have key : ∀ (G' : List (ByteArray × Value)) (w'' : World), Gr w' lo G' (row ++ [q]) → w'.grownBy w'' (some b) → Gr w'' lo G' (row ++ [q]) := fun G' w'' h9 g9 => h9.gro g9 (fun x hx k hk e => On.neMap (h9.own x hx) hm' (by rw [hk, ← e]))
  rcases ha with ⟨h1, rfl⟩ | ⟨k, h1⟩
  · have hp : q.path ∉ row.map Nd.path := fun h9 => h1 (by rw [h.keys]; exact key_mem.2 h9)
    rw [fl_none hp] at o
    have hG := h.new h1 g o hat
    obtain ⟨w'', e1, e2, e3, e4⟩ := putG_new w' b G q.path v hm' h1
    exact ⟨_, w'', e1, e2, key _ _ hG e3, e3, e4⟩
  · have hG := h.old h1 g o hat
    obtain ⟨w'', e1, e2, e3, e4⟩ := putG_old w' b k G q.path v v0 hm' h1 h.nodup
    exact ⟨_, w'', e1, e2, key _ _ hG e3, e3, e4⟩
theorem AtG.some {w : World} {lo : Nat} {G : List (ByteArray × Value)} {row : List Nd} {p : ByteArray} {v : Value} (h : Gr w lo G row) (ha : AtG G p v) (hp : p ∈ keys16 row) : (p, v) ∈ G := by
  rcases ha with ⟨h1, rfl⟩ | ⟨k, h1⟩
  · rw [h.keys] at h1; exact absurd hp h1
  · exact List.mem_of_getElem? h1
theorem Sl.str_at {w : World} {v : Value} {l : List ByteArray} (h : Sl w v (ss l)) {k : Nat} {p : ByteArray} (hk : l[k]? = some p) : ∃ b off cap, v = .slice (some ⟨b, off, none⟩) l.length cap ∧ l.length ≤ cap ∧ w.cell? ⟨b, off + k, none⟩ = some (.string p) := by
  obtain ⟨ao, cap, rfl, hc, _, hr⟩ := h
  rw [ss_len] at hr hc
  have hl := (List.getElem?_eq_some_iff.1 hk).1
  obtain ⟨b, off, rfl, hcell⟩ := hr (by omega)
  refine ⟨b, off, cap, by rw [ss_len], hc, ?_⟩
  rw [hcell k hl]
  unfold ss
  rw [List.getElem?_map, hk]
  rfl
/-- a path's versions, and the latest of these -/
theorem groups_at {W W5 : World} {b lo : Nat} {G : List (ByteArray × Value)} {row : List Nd} {p : ByteArray} (hl : row.length ≤ 1000) (hz : ∀ x ∈ row, x.path.size ≤ 1000000000000 ∧ x.pre.size ≤ 100) (hM : Mg W b G) (hG : Gr W lo G row) (hD : Below W.heap.size W W5) (hpk : p ∈ keys16 row) :
    ∃ (gv cpv nv : Nat) (LV : Q4), (Instr.lookup 110 (.map (some b)) (.string p) false).run Tryz.prog W5 = .ok (.slice (some ⟨gv, 0, none⟩) nv cpv) W5 ∧ Hid (LV = lat4 (vers p row)) ∧ Calls Tryz.prog 23 #[.slice (some ⟨gv, 0, none⟩) nv cpv] W5 (fun e w' => e = .returned (.agg #[.int .i64 LV.1, .int .i64 LV.2.1, .int .i64 LV.2.2.1, .string LV.2.2.2]) ∧ Below W5.heap.size W5 w') := by
  obtain ⟨v0, ha, hL⟩ := look_at b G p
  have hmem := ha.some hG hpk
  have hL5 := hL W5 (hM.later hD)
  have hO5 : Ow W5 lo W5.heap.size v0 (fl p row) := (hG.later hD).own _ hmem
  obtain ⟨gv, cpv, rfl, hcv0, hCv⟩ := Ow.cv hO5 (fl_some (key_mem.1 hpk))
  have hne := vers_some.2 (key_mem.1 hpk)
  have hvl9 : (vers p row).length = (fl p row).length := by rw [vers_fl, List.length_map]
  have hvz : ∀ x ∈ vers p row, x.2.2.2.size ≤ 100 := by
    intro x hx
    obtain ⟨n, hn, rfl⟩ := List.mem_map.1 (show x ∈ (fl p row).map ver4 from hx)
    exact (hz n (fl_sub hn)).2
  have hcv : Cv W5 gv (vers p row) := hCv
  have hfl := fl_len p row
  cases hq9 : vers p row with
  | nil => exact absurd hq9 hne
  | cons qv lv9 =>
    rw [hq9] at hvl9 hvz hcv
    rw [List.length_cons] at hvl9
    have qL := lat_impl W5 gv cpv qv lv9 hcv (by omega) (by omega) hvz
    rw [hvl9] at qL
    exact ⟨gv, cpv, _, latF qv lv9, hL5, rfl, qL⟩
/-- how the answer is told -/
def LtP (row : List Nd) (w : World) (e : Ending) (w' : World) : Prop := ∃ (v' : Value) (SK : List ByteArray), e = .returned v' ∧ SK.Perm (keys16 row) ∧ (SK.Pairwise fun a c => ltT c a = false) ∧ Od w' w.heap.size w'.heap.size v' (SK.map (latN row)) ∧ Below w.heap.size w w'
theorem latN_cs (row : List Nd) (p : ByteArray) : (latN row p).cs = [.string p, .int .i64 (lat4 (vers p row)).1, .int .i64 (lat4 (vers p row)).2.1, .int .i64 (lat4 (vers p row)).2.2.1, .string (lat4 (vers p row)).2.2.2] := rfl

set_option maxRecDepth 1000000 in
set_option maxHeartbeats 8000000 in
theorem latest_impl (w : World) (v : Value) (row : List Nd) (h : Sd w v row) (hl : row.length ≤ 1000) (hz : ∀ x ∈ row, x.path.size ≤ 1000000000000 ∧ x.pre.size ≤ 100) :
    Calls Tryz.prog 51 #[v] w fun e w' => LtP row w e w' := by
  obtain ⟨i0, hi, hz0, hz1, hz2⟩ := info_parts infoVe
  obtain ⟨i1, hi1, hy0, hy1, hy2⟩ := info_parts infoN
  have HS : Hid (Sd w v row) := h
  obtain ⟨_, ao, cap, rfl, hcap, _, _⟩ := h
  have hmk := run_makeMap_plain (P := Tryz.prog) w 110
  obtain ⟨W1, HW1, b1, hs1, hm1⟩ : ∃ X, Hid (w.alloc (.map #[] 0) = X) ∧ Below w.heap.size w X ∧ X.heap.size = w.heap.size + 1 ∧ X.heap[w.heap.size]? = some (.map #[] 0) := ⟨_, rfl, (Below.refl _ _).alloc (Nat.le_refl _) _, by simp, heap_alloc_new w _⟩
  have M1 : Hid (Mg W1 w.heap.size []) := hm1
  have G1 : Hid (Gr W1 w.heap.size [] []) := Gr.nil _ _
  have B1 : Hid (Below w.heap.size w W1) := b1
  go_enter Tryz.func51, Tryz.ntmps51
  go_upto_region 2 with fail
  rw [HW1.out]
  clear hmk hm1 b1 hs1 HW1
  go_wp2_with fail
  go_loopw [12] (fun iv wr => ∃ (k : Nat) (G : List (ByteArray × Value)), k ≤ row.length ∧ iv = .int .i64 (k : Int) ∧ Hid (Mg wr w.heap.size G) ∧ Hid (Gr wr w.heap.size G (row.take k)) ∧ Hid (Below w.heap.size w wr)) (fun iv _ => row.length - (intOf iv).toNat)
  case atStart => exact ⟨0, [], Nat.zero_le _, rfl, M1, G1, B1⟩
  case round =>
    obtain ⟨k, G, hk, rfl, M2, G2, B2⟩ := hrel
    obtain ⟨W2, hW2⟩ : ∃ X, X = wr := ⟨_, rfl⟩
    subst hW2
    clear M1 G1 B1
    by_cases hlt : k < row.length
    · have hlt2 : (k : Int) < (row.length : Int) := by omega
      obtain ⟨q, hq⟩ : ∃ q, row[k]? = some q := ⟨row[k], by simp [hlt]⟩
      have HQ := Ke.h hq
      obtain ⟨b, off, cap9, he, _, p0, p1, p2, p3, p4⟩ := Sd.at (HS.out.later B2.out) hq
      simp only [Value.slice.injEq] at he
      obtain ⟨rfl, _, rfl⟩ := he
      clear hq
      obtain ⟨W3, HW3, b3, y3, hS3, r3⟩ := Ke.l1 W2 #[.string q.path, .int .i64 q.a, .int .i64 q.b, .int .i64 q.c, .string q.pre] 38
      have M3 := Ke.h (M2.out.later b3)
      have G3 := Ke.h (G2.out.later b3)
      have B3 := Ke.b B2 b3
      have zw := B2.out.size
      have zb : w.heap.size < W2.heap.size := (Array.getElem?_eq_some_iff.1 M2.out).1
      obtain ⟨v0, ha, hL⟩ := look_at w.heap.size G q.path
      have HA := Ke.h ha
      clear ha
      go_upto_region 5 with fail
      rw [HW3.out]
      clear p0 p1 p2 p3 p4
      have c3 := Ke.c r3
      refine wp_region_held_drew (S := fun w' => (∀ j, w'.cell? ⟨W2.heap.size, j, none⟩ = #[.string q.path, .int .i64 q.a, .int .i64 q.b, .int .i64 q.c, .string q.pre][j]?)) (by kernel_rfl) c3 (fun hHeld => ?_)
      obtain ⟨W4, HW4, b4⟩ : ∃ X, Hid (W3.drew = X) ∧ Below W3.heap.size W3 X := ⟨_, rfl, Below.drew (Below.refl _ _)⟩
      have HHW4 := HW4.out
      rw [HHW4] at hHeld ⊢
      clear HHW4 c3
      have r4 := Ke.r r3 b4
      have M4 := Ke.h (M3.out.later b4)
      have G4 := Ke.h (G3.out.later b4)
      have B4 := Ke.b B3 b4
      have z4 := b4.size
      clear r3 M3 G3 B3
      refine Ke.y 0 rfl (fun _ _ _ h => h) ?_
      try simp only [Act.put, pu1, pu2, pu3, pu4, pu5, pu6]
      refine Ke.y 1 rfl (fun _ _ _ h => h) ?_
      try simp only [Act.put, pu1, pu2, pu3, pu4, pu5, pu6]
      refine Ke.y 2 rfl (fun _ _ _ h => h) ?_
      try simp only [Act.put, pu1, pu2, pu3, pu4, pu5, pu6]
      refine Ke.y 3 rfl (fun _ _ _ h => h) ?_
      try simp only [Act.put, pu1, pu2, pu3, pu4, pu5, pu6]
      refine Ke.y 4 rfl (fun _ _ _ h => h) ?_
      try simp only [Act.put, pu1, pu2, pu3, pu4, pu5, pu6]
      refine Ke.y 5 rfl (fun _ _ _ h => h) ?_
      try simp only [Act.put, pu1, pu2, pu3, pu4, pu5, pu6]
      refine Ke.y 7 rfl (fun _ _ _ h => h) ?_
      try simp only [Act.put, pu1, pu2, pu3, pu4, pu5, pu6]
      refine Ke.y 8 rfl (fun _ _ _ h => h) ?_
      try simp only [Act.put, pu1, pu2, pu3, pu4, pu5, pu6]
      refine wpAnyH_ready (rs := [6, 9]) (by kernel_rfl) (by simp) ?_
      refine AllReadyH.cons rfl (fun K hK => ?_) (AllReadyH.cons rfl (fun K hK => ?_) AllReadyH.nil)
      · -- the map is read first
        have hl := hL W4 M4.out
        go_simp
        refine hK.out _ _ hHeld (fun hHeld => ?_)
        clear hK K hl
        try simp only [Act.put, pu1, pu2, pu3, pu4, pu5, pu6]
        refine Ke.z 9 rfl (fun K hK => ?_)
        go_simp
        refine hK.out _ _ (Ke.k (W := W4) hHeld ((Below.refl _ _).alloc (Nat.le_refl _) _)) (fun hHeld => ?_)
        clear hK K
        try simp only [Act.put, pu1, pu2, pu3, pu4, pu5, pu6]
        obtain ⟨W5, HW5, b5, T9⟩ : ∃ X, Hid ((W4.alloc (.cells #[.int .i64 q.a, .int .i64 q.b, .int .i64 q.c, .string q.pre] 32)) = X) ∧ Below W4.heap.size W4 X ∧ Hid (Sn 4 X (.slice (some ⟨W4.heap.size, 0, none⟩) 1 1) 1 (Fe.vc q).toList) := ⟨_, rfl, ((Below.refl _ _).alloc (Nat.le_refl _) _), Sn.one 4 W4 (Fe.vc q) 32 rfl⟩
        have HHW5 := HW5.out
        rw [HHW5] at hHeld ⊢
        clear HHW5
        have r5 := Ke.r r4 b5
        have M5 := Ke.h (M4.out.later b5)
        have G5 := Ke.h (G4.out.later b5)
        have B5 := Ke.b B4 b5
        have z5 := b5.size
        clear r4 M4 G4 B4
        have hO := AtG.own G5.out HA.out
        have hfl := fl_len q.path (row.take k)
        have htk : (row.take k).length ≤ row.length := by simp; omega
        have k1 : (fl q.path (row.take k)).length + 1 ≤ maxLen := by unfold maxLen; omega
        have k2 : ((fl q.path (row.take k)).length + 1) * 40 ≤ 140737488355328 := by omega
        have hlo9 : w.heap.size ≤ W5.heap.size := by omega
        refine Ke.z 10 rfl (fun K hK => ?_)
        refine step_appw 4 (by omega) rfl (.tmp 22) (.tmp 25) 42 (by rfl) 32 i0 (.agg #[.int .i64 0, .int .i64 0, .int .i64 0, .string ⟨#[]⟩]) 40 Tryz.underlying42 hi hz0 hz1 hz2 rfl w.heap.size v0 (fl q.path (row.take k)).length (vcs (fl q.path (row.take k))) (by rfl) hO _ 1 1 (by rfl) (Fe.vc q).toList T9.out (by omega) (vc_one q) k1 k2 hlo9 ?_
        intro v9 W6 o6 g6 hat
        refine hK.out _ _ (Ke.g hHeld g6 (On.neRow hO r5.out (by decide))) (fun hHeld => ?_)
        clear hK K
        try simp only [Act.put, pu1, pu2, pu3, pu4, pu5, pu6]
        have o6 : Ow W6 w.heap.size W6.heap.size v9 (fl q.path (row.take k) ++ [q]) := Fe.Ow.snoc o6
        obtain ⟨G9, W7, hU, M7, G7, g7, hs7⟩ := Gr.step G5.out M5.out HA.out g6 o6 hat
        have B6 : Hid (Below w.heap.size w W6) := belowGro B5.out g6 B5.out.size (fun k9 h9 => (On.lt hO h9).1)
        have B7 : Hid (Below w.heap.size w W7) := belowGro B6.out g7 B6.out.size (fun k9 h9 => by injection h9 with h9; omega)
        have z6 := g6.size
        refine Ke.z 11 rfl (fun K hK => ?_)
        go_simp
        refine hK.out _ _ (Ke.g hHeld g7 (by intro h9; injection h9 with h9; omega)) (fun hHeld => ?_)
        clear hK K
        try simp only [Act.put, pu1, pu2, pu3, pu4, pu5, pu6]
        have M7 := Ke.h M7
        have HG : Hid (Gr W7 w.heap.size G9 (row.take (k + 1))) := by show Gr _ _ _ _; rw [take_snoc15 HQ.out]; exact G7
        refine wpAnyH_done (by kernel_rfl) ?_ _
        clear hHeld hU
        go_wp2
        go_roundw
        case rel => exact ⟨k + 1, G9, by omega, by go_num, M7, HG, B7⟩
        case measure => simp [intOf]; omega
      · -- the literal is made first
        go_simp
        refine hK.out _ _ (Ke.k (W := W4) hHeld ((Below.refl _ _).alloc (Nat.le_refl _) _)) (fun hHeld => ?_)
        clear hK K
        try simp only [Act.put, pu1, pu2, pu3, pu4, pu5, pu6]
        obtain ⟨W5, HW5, b5, T9⟩ : ∃ X, Hid ((W4.alloc (.cells #[.int .i64 q.a, .int .i64 q.b, .int .i64 q.c, .string q.pre] 32)) = X) ∧ Below W4.heap.size W4 X ∧ Hid (Sn 4 X (.slice (some ⟨W4.heap.size, 0, none⟩) 1 1) 1 (Fe.vc q).toList) := ⟨_, rfl, ((Below.refl _ _).alloc (Nat.le_refl _) _), Sn.one 4 W4 (Fe.vc q) 32 rfl⟩
        have HHW5 := HW5.out
        rw [HHW5] at hHeld ⊢
        clear HHW5
        have r5 := Ke.r r4 b5
        have M5 := Ke.h (M4.out.later b5)
        have G5 := Ke.h (G4.out.later b5)
        have B5 := Ke.b B4 b5
        have z5 := b5.size
        clear r4 M4 G4 B4
        refine Ke.z 6 rfl (fun K hK => ?_)
        have hl := hL W5 M5.out
        go_simp
        refine hK.out _ _ hHeld (fun hHeld => ?_)
        clear hK K hl
        try simp only [Act.put, pu1, pu2, pu3, pu4, pu5, pu6]
        have hO := AtG.own G5.out HA.out
        have hfl := fl_len q.path (row.take k)
        have htk : (row.take k).length ≤ row.length := by simp; omega
        have k1 : (fl q.path (row.take k)).length + 1 ≤ maxLen := by unfold maxLen; omega
        have k2 : ((fl q.path (row.take k)).length + 1) * 40 ≤ 140737488355328 := by omega
        have hlo9 : w.heap.size ≤ W5.heap.size := by omega
        refine Ke.z 10 rfl (fun K hK => ?_)
        refine step_appw 4 (by omega) rfl (.tmp 22) (.tmp 25) 42 (by rfl) 32 i0 (.agg #[.int .i64 0, .int .i64 0, .int .i64 0, .string ⟨#[]⟩]) 40 Tryz.underlying42 hi hz0 hz1 hz2 rfl w.heap.size v0 (fl q.path (row.take k)).length (vcs (fl q.path (row.take k))) (by rfl) hO _ 1 1 (by rfl) (Fe.vc q).toList T9.out (by omega) (vc_one q) k1 k2 hlo9 ?_
        intro v9 W6 o6 g6 hat
        refine hK.out _ _ (Ke.g hHeld g6 (On.neRow hO r5.out (by decide))) (fun hHeld => ?_)
        clear hK K
        try simp only [Act.put, pu1, pu2, pu3, pu4, pu5, pu6]
        have o6 : Ow W6 w.heap.size W6.heap.size v9 (fl q.path (row.take k) ++ [q]) := Fe.Ow.snoc o6
        obtain ⟨G9, W7, hU, M7, G7, g7, hs7⟩ := Gr.step G5.out M5.out HA.out g6 o6 hat
        have B6 : Hid (Below w.heap.size w W6) := belowGro B5.out g6 B5.out.size (fun k9 h9 => (On.lt hO h9).1)
        have B7 : Hid (Below w.heap.size w W7) := belowGro B6.out g7 B6.out.size (fun k9 h9 => by injection h9 with h9; omega)
        have z6 := g6.size
        refine Ke.z 11 rfl (fun K hK => ?_)
        go_simp
        refine hK.out _ _ (Ke.g hHeld g7 (by intro h9; injection h9 with h9; omega)) (fun hHeld => ?_)
        clear hK K
        try simp only [Act.put, pu1, pu2, pu3, pu4, pu5, pu6]
        have M7 := Ke.h M7
        have HG : Hid (Gr W7 w.heap.size G9 (row.take (k + 1))) := by show Gr _ _ _ _; rw [take_snoc15 HQ.out]; exact G7
        refine wpAnyH_done (by kernel_rfl) ?_ _
        clear hHeld hU
        go_wp2
        go_roundw
        case rel => exact ⟨k + 1, G9, by omega, by go_num, M7, HG, B7⟩
        case measure => simp [intOf]; omega
    · have hlt2 : ¬ (k : Int) < (row.length : Int) := by omega
      have HE : Hid (k = row.length) := by show _ = _; omega
      have G3 : Hid (Gr W2 w.heap.size G row) := by have h9 := G2.out; rw [HE.out, List.take_length] at h9; exact h9
      clear G2
      have hGl : G.length ≤ 1000 := by have h9 := congrArg List.length G3.out.keys; rw [List.length_map] at h9; have := (keys_facts row).2.2; omega
      have hGz : ∀ x ∈ G, x.1.size ≤ maxLen := fun x hx => by obtain ⟨n, hn, hp⟩ := List.mem_map.1 (G3.out.mem hx); have := (hz n hn).1; rw [← hp]; unfold maxLen; omega
      have qk := keys_impl W2 w.heap.size
      have qs := sorted_impl W2 w.heap.size G M2.out G3.out.nodup hGl hGz
      go_upto_region 8 with fail
      go_wp2_with fail
      refine qk.mono ?_
      rintro e W3 ⟨rfl, rfl⟩
      go_wp2_with fail
      refine qs.mono ?_
      rintro e W4 ⟨v4, SK, rfl, hp, hpw, ho, b4⟩
      clear qk qs
      have HP : Hid (SK.Perm (keys16 row)) := by show List.Perm _ _; rw [← G3.out.keys]; exact hp
      have HPW := Ke.h hpw
      have HO : Hid (Sl W4 v4 (ss SK)) := ho.sl
      have B4 : Hid (Below w.heap.size w W4) := B2.out.trans (b4.mono B2.out.size)
      have M4 := Ke.h (M2.out.later b4)
      have G4 := Ke.h (G3.out.later b4)
      have z2 := B4.out.size
      have hSl : SK.length ≤ row.length := by have h9 := HP.out.length_eq; have := (keys_facts row).2.2; omega
      obtain ⟨a4, c4, hv4, hc4, _⟩ := HO.out
      rw [ss_len] at hv4 hc4
      subst hv4
      clear hp hpw ho b4 M2 G3 B2 HE hGl hGz
      go_wp2_with fail
      go_loopw [6, 32] (fun rv iv wr => ∃ (j : Nat) (T : List Nd), j ≤ SK.length ∧ iv = .int .i64 (j : Int) ∧ Hid (T = (SK.take j).map (latN row)) ∧ Hid (Od wr W4.heap.size wr.heap.size rv T) ∧ Hid (Below W4.heap.size W4 wr)) (fun _ iv _ => SK.length - (intOf iv).toNat)
      case atStart => exact ⟨0, [], Nat.zero_le _, rfl, (by show _ = _; rfl), On.nil 5 _ _ _ _, Below.refl _ _⟩
      case round =>
        obtain ⟨j, T, hj, rfl, HT, O5, D5⟩ := hrel
        obtain ⟨W5, hW5⟩ : ∃ X, X = wr := ⟨_, rfl⟩
        subst hW5
        have B5 : Hid (Below w.heap.size w W5) := B4.out.trans (D5.out.mono B4.out.size)
        obtain ⟨av, cv, hrv⟩ := Od.slice O5.out
        subst hrv
        have HTl : Hid (T.length = j) := by show _ = _; rw [HT.out]; simp; omega
        by_cases hjt : j < SK.length
        · have hjt2 : (j : Int) < (SK.length : Int) := by omega
          obtain ⟨p, hp⟩ : ∃ p, SK[j]? = some p := ⟨SK[j], by simp [hjt]⟩
          have HPP := Ke.h hp
          obtain ⟨b8, off8, cap8, he, _, m0⟩ := Sl.str_at (Mem.Sl.later HO.out D5.out) hp
          simp only [Value.slice.injEq] at he
          obtain ⟨rfl, _, rfl⟩ := he
          have hpk : p ∈ keys16 row := HP.out.mem_iff.1 (List.mem_of_getElem? hp)
          clear hp
          obtain ⟨gv, cpv, nv, LV, hL5, qL⟩ : ∃ (gv cpv nv : Nat) (LV : Q4), (Instr.lookup 110 (.map (some w.heap.size)) (.string p) false).run Tryz.prog W5 = .ok (.slice (some ⟨gv, 0, none⟩) nv cpv) W5 ∧ Hid (LV = lat4 (vers p row)) ∧ Calls Tryz.prog 23 #[.slice (some ⟨gv, 0, none⟩) nv cpv] W5 (fun e w' => e = .returned (.agg #[.int .i64 LV.1, .int .i64 LV.2.1, .int .i64 LV.2.2.1, .string LV.2.2.2]) ∧ Below W5.heap.size W5 w') := groups_at hl hz M4.out G4.out D5.out hpk
          obtain ⟨HLV, qL⟩ := qL
          have HO6 : ∀ W, Below W5.heap.size W5 W → Od W W4.heap.size W.heap.size (.slice av T.length cv) T := fun W hW => Od.up O5.out hW
          clear hpk
          go_upto_region 11 with fail
          clear m0
          go_wp2_with fail
          refine qL.mono ?_
          rintro e W6 ⟨rfl, b6⟩
          clear qL hL5
          have D6 := Ke.b D5 b6
          have k1 : T.length + 1 ≤ maxLen := by rw [HTl.out]; unfold maxLen; omega
          have k2 : (T.length + 1) * 56 ≤ 140737488355328 := by rw [HTl.out]; omega
          have k3 : ∀ ob, W4.heap.size ≤ (W6.alloc ob).heap.size := fun ob => by have := D6.out.size; simp; omega
          have O2 : ∀ ob, On 5 (W6.alloc ob) W4.heap.size (W6.alloc ob).heap.size 38 (.slice av T.length cv) T.length (nds T) := fun ob => On.alloc (HO6 W6 b6) ob
          obtain ⟨y, hy⟩ : ∃ y : Nd, y = ⟨p, LV.1, LV.2.1, LV.2.2.1, LV.2.2.2⟩ := ⟨_, rfl⟩
          have SY : Sn 5 (W6.alloc (.cells #[.string p, .int .i64 LV.1, .int .i64 LV.2.1, .int .i64 LV.2.2.1, .string LV.2.2.2] 38)) (.slice (some ⟨W6.heap.size, 0, none⟩) 1 1) 1 y.cs := by rw [hy]; exact Sn.one 5 W6 (nc ⟨p, LV.1, LV.2.1, LV.2.2.1, LV.2.2.2⟩) 38 rfl
          have HYY : Hid (latN row p = y) := by show _ = _; rw [hy, HLV.out]; rfl
          clear hy
          go_wp2_with (at_builtin; go_must (refine wpl_appn 5 (by omega) _ rfl (.tmp 36) (.tmp 43) 25 rfl 38 i1 (.agg #[.string ⟨#[]⟩, .int .i64 0, .int .i64 0, .int .i64 0, .string ⟨#[]⟩]) 56 Tryz.underlying25 hi1 hy0 hy1 hy2 rfl W4.heap.size _ T.length (nds T) rfl (O2 _) _ rfl 1 y.cs SY (cs_oneN y) k1 k2 (k3 _) ?_))
          intro v7 W7 o7 b7 _
          have HO7 : Hid (Od W7 W4.heap.size W7.heap.size v7 (T ++ [y])) := Od.snoc o7
          have HT7 : Hid (T ++ [y] = (SK.take (j + 1)).map (latN row)) := by show _ = _; rw [take_snoc15 HPP.out, List.map_append, HT.out, ← HYY.out]; rfl
          have D7 : Hid (Below W4.heap.size W4 W7) := (D6.out.alloc D6.out.size _).trans b7
          clear O2 b7 o7 HO6 SY
          go_wp2
          go_roundw
          case rel => exact ⟨j + 1, T ++ [y], by omega, by go_num, HT7, HO7, D7⟩
          case measure => simp [intOf]; omega
        · have hjt2 : ¬ (j : Int) < (SK.length : Int) := by omega
          have HT9 : Hid (T = SK.map (latN row)) := by show _ = _; rw [HT.out, show j = SK.length by omega, List.take_length]
          have HO7 : Hid (Od W5 W4.heap.size W5.heap.size (.slice av T.length cv) (SK.map (latN row))) := by rw [← HT9.out]; exact O5.out
          go_wp2
          go_ret
          exact ⟨_, SK, rfl, HP.out, HPW.out, On.mono HO7.out z2 (Nat.le_refl _), B5.out⟩

end Go.Proofs.YtlhmemnaiobgkaaGreatDoor.Se

/- Chapter 3, the landed code: what is bumped. -/
namespace Go.Proofs.YtlhmemnaiobgkaaGreatDoor.Ver
set_option linter.unusedVariables false
set_option linter.unusedSimpArgs false
open Go.RowKit Go.Proofs.YtlhmemnaiobgkaaGreatDoor.Mem Go.Proofs.YtlhmemnaiobgkaaGreatDoor.Laws Go.Proofs.YtlhmemnaiobgkaaGreatDoor.Bytes Go.Proofs.YtlhmemnaiobgkaaGreatDoor.Sha

end Go.Proofs.YtlhmemnaiobgkaaGreatDoor.Ver

/- Chapter 3: the order of drawn versions, as the landed code tells it; plain facts alone. -/
namespace Go.Proofs.YtlhmemnaiobgkaaGreatDoor.Ver
open Go.RowKit Go.Proofs.YtlhmemnaiobgkaaGreatDoor.Mem Go.Proofs.YtlhmemnaiobgkaaGreatDoor.Laws Go.Proofs.YtlhmemnaiobgkaaGreatDoor.Bytes Go.Proofs.YtlhmemnaiobgkaaGreatDoor.Sha
set_option linter.unusedVariables false
set_option linter.unusedSimpArgs false

/-- where a drawn one stands in the order -/
def rank (p : ByteArray) : Int :=
  if p.data.toList = [49] then 0 else if p.data.toList = [50, 46, 120] then 1 else if p.data.toList = [97, 108, 112, 104, 97] then 2 else if p.data.toList = [98, 101, 116, 97, 45, 49] then 3
  else if p.data.toList = [114, 99] then 4 else if p.data.toList = [114, 99, 46, 49] then 5 else if p.data.toList = [114, 99, 46, 50] then 6 else 7

/-- the same as the comparisons of texts, in words that a kernel can reckon -/
def cmpB (a b : List UInt8) : Int := if Op.bytesLess a b = true then -1 else if a = b then 0 else 1
theorem cmpT_B (a b : ByteArray) : cmpT a b = cmpB a.data.toList b.data.toList := by
  unfold cmpT cmpB ltT eqT
  rw [ByteArray.toList_eq, ByteArray.toList_eq]
  simp
def cmpPartB (a b : List UInt8) : Int :=
  if isNum (a.map fun b => (b.toNat : Int)) = true then (if isNum (b.map fun b => (b.toNat : Int)) = true then orL [cmpI a.length b.length, cmpB a b] else -1) else (if isNum (b.map fun b => (b.toNat : Int)) = true then 1 else cmpB a b)
theorem cmpPart_B (a b : ByteArray) : cmpPart a b = cmpPartB a.data.toList b.data.toList := by
  unfold cmpPart cmpPartB
  rw [cmpT_B]
  rfl
def cmpLB : List (List UInt8) → List (List UInt8) → Int
  | [], [] => 0
  | [], _ :: _ => -1
  | _ :: _, [] => 1
  | t :: r, u :: q => if cmpPartB t u = 0 then cmpLB r q else cmpPartB t u
theorem cmpL_B : ∀ (l m : List ByteArray), cmpL l m = cmpLB (l.map (·.data.toList)) (m.map (·.data.toList)) := by
  intro l
  induction l with
  | nil => intro m; cases m <;> rfl
  | cons t r ih =>
    intro m
    cases m with
    | nil => rfl
    | cons u q =>
      simp only [List.map_cons, cmpL, cmpLB, cmpPart_B, ih]
def splitB (l : List UInt8) : List (List UInt8) := (split 46 (l.map fun b => (b.toNat : Int))).map Plain.u8s
theorem splitT_B (s : ByteArray) : (splitT 46 s).map (·.data.toList) = splitB s.data.toList := by
  unfold splitT splitB
  rw [List.map_map]
  rfl
def cmpPreB (a b : List UInt8) : Int := if a = b then 0 else if a.length = 0 then 1 else if b.length = 0 then -1 else cmpLB (splitB a) (splitB b)
theorem cmpPre_B (a b : ByteArray) : cmpPre a b = cmpPreB a.data.toList b.data.toList := by
  unfold cmpPre cmpPreB eqT
  rw [cmpL_B, splitT_B, splitT_B, ByteArray.toList_eq, ByteArray.toList_eq]
  simp

theorem rank_all : (preL.all fun p => preL.all fun q => decide (cmpPreB p.data.toList q.data.toList = cmpI (rank p) (rank q)) && (decide (rank p = rank q) == decide (p.data.toList = q.data.toList))) = true := by decide +kernel
theorem rank_pre {p q : ByteArray} (hp : p ∈ preL) (hq : q ∈ preL) : cmpPre p q = cmpI (rank p) (rank q) ∧ (rank p = rank q ↔ p = q) := by
  have h := List.all_eq_true.1 (List.all_eq_true.1 rank_all p hp) q hq
  rw [Bool.and_eq_true] at h
  refine ⟨by rw [cmpPre_B]; exact of_decide_eq_true h.1, ?_⟩
  have h2 := h.2
  rw [beq_iff_eq, decide_eq_decide] at h2
  rw [h2]
  constructor
  · intro h3; apply ByteArray.ext; apply Array.ext'; exact h3
  · rintro rfl; rfl
theorem pre_ok : (preL.all fun p => decide (p.data.size = 0) || pre (p.data.toList.map fun b => (b.toNat : Int))) = true := by decide +kernel
theorem Dv.ok {a b c : Int} {p : ByteArray} (h : Dv a b c p) : okV a b c p = true := by
  obtain ⟨⟨a0, a1⟩, ⟨b0, b1⟩, ⟨c0, c1⟩, hp⟩ := h
  have h2 := List.all_eq_true.1 pre_ok p hp
  unfold okV inM
  rw [decide_eq_true (show 0 ≤ a ∧ a ≤ 1000000 by omega), decide_eq_true (show 0 ≤ b ∧ b ≤ 1000000 by omega), decide_eq_true (show 0 ≤ c ∧ c ≤ 1000000 by omega)]
  exact h2
theorem Dv.size {a b c : Int} {p : ByteArray} (h : Dv a b c p) : p.size ≤ 8 := preL_size p h.2.2.2
theorem Dv.none {a b c : Int} {p : ByteArray} (h : Dv a b c p) : Dv a b c ⟨#[]⟩ := ⟨h.1, h.2.1, h.2.2.1, by unfold preL; exact List.mem_cons_self ..⟩

/-- less, of drawn ones: four numbers one by one -/
theorem less_D {a1 b1 c1 : Int} {p1 : ByteArray} {a2 b2 c2 : Int} {p2 : ByteArray} (h1 : p1 ∈ preL) (h2 : p2 ∈ preL) :
    decide (cmpV a1 b1 c1 p1 a2 b2 c2 p2 < 0) = decide (a1 < a2 ∨ a1 = a2 ∧ (b1 < b2 ∨ b1 = b2 ∧ (c1 < c2 ∨ c1 = c2 ∧ rank p1 < rank p2))) := by
  apply decide_eq_decide.2
  unfold cmpV
  rw [(rank_pre h1 h2).1]
  simp only [orL, cmpI]
  constructor
  · intro h
    repeat' split at h
    all_goals omega
  · intro h
    repeat' split
    all_goals omega

/-- the specification's comparisons, in words that a kernel can reckon -/
def lessPartB (a b : List UInt8) : Bool :=
  if 0 ≤ number (a.map fun b => (b.toNat : Int)) then (if 0 ≤ number (b.map fun b => (b.toNat : Int)) then decide (number (a.map fun b => (b.toNat : Int)) < number (b.map fun b => (b.toNat : Int))) else true) else (if 0 ≤ number (b.map fun b => (b.toNat : Int)) then false else Op.bytesLess a b)
theorem lessPart_B (a b : ByteArray) : lessPart a b = lessPartB a.data.toList b.data.toList := by
  unfold lessPart lessPartB ltT
  rw [ByteArray.toList_eq, ByteArray.toList_eq]
  rfl
def lessLB : List (List UInt8) → List (List UInt8) → Bool
  | [], [] => false
  | [], _ :: _ => true
  | _ :: _, [] => false
  | t :: r, u :: q => if t = u then lessLB r q else lessPartB t u
theorem lessL_B : ∀ (l m : List ByteArray), lessL l m = lessLB (l.map (·.data.toList)) (m.map (·.data.toList)) := by
  intro l
  induction l with
  | nil => intro m; cases m <;> rfl
  | cons t r ih =>
    intro m
    cases m with
    | nil => rfl
    | cons u q =>
      simp only [List.map_cons, lessL, lessLB, lessPart_B, ih]
      unfold eqT
      rw [ByteArray.toList_eq, ByteArray.toList_eq]
      simp
def lessPreB (a b : List UInt8) : Bool := if a = b then false else if a.length = 0 then false else if b.length = 0 then true else lessLB (splitB a) (splitB b)
theorem rank_less : (preL.all fun p => preL.all fun q => lessPreB p.data.toList q.data.toList == decide (rank p < rank q)) = true := by decide +kernel

theorem lessV_D {a1 b1 c1 : Int} {p1 : ByteArray} {a2 b2 c2 : Int} {p2 : ByteArray} (h1 : p1 ∈ preL) (h2 : p2 ∈ preL) :
    lessV a1 b1 c1 p1 a2 b2 c2 p2 = decide (a1 < a2 ∨ a1 = a2 ∧ (b1 < b2 ∨ b1 = b2 ∧ (c1 < c2 ∨ c1 = c2 ∧ rank p1 < rank p2))) := by
  have h := List.all_eq_true.1 (List.all_eq_true.1 rank_less p1 h1) p2 h2
  rw [beq_iff_eq] at h
  have hp : (if eqT p1 p2 = true ∨ p1.size = 0 then false else if p2.size = 0 then true else lessPre p1 p2) = decide (rank p1 < rank p2) := by
    rw [← h]
    unfold lessPreB lessPre
    rw [lessL_B, splitT_B, splitT_B]
    have e : (eqT p1 p2 = true) ↔ p1.data.toList = p2.data.toList := by
      unfold eqT
      rw [ByteArray.toList_eq, ByteArray.toList_eq]
      simp
    have z1 : p1.data.toList.length = p1.size := by simp
    have z2 : p2.data.toList.length = p2.size := by simp
    rw [z1, z2]
    by_cases h3 : p1.data.toList = p2.data.toList
    · rw [if_pos (.inl (e.2 h3)), if_pos h3]
    · rw [if_neg h3]
      by_cases h4 : p1.size = 0
      · rw [if_pos (.inr h4), if_pos h4]
      · rw [if_neg h4, if_neg]
        rintro (h5 | h5)
        · exact h3 (e.1 h5)
        · exact h4 h5
  unfold lessV
  rw [hp]
  by_cases x1 : a1 = a2
  · by_cases x2 : b1 = b2
    · by_cases x3 : c1 = c2
      · simp [x1, x2, x3]
      · simp [x1, x2, x3]
    · simp [x1, x2]
  · simp [x1]

end Go.Proofs.YtlhmemnaiobgkaaGreatDoor.Ver

/- Chapter 16: the order of drawn versions. -/
namespace Go.Proofs.YtlhmemnaiobgkaaGreatDoor.Se
open Go.RowKit Go.Proofs.YtlhmemnaiobgkaaGreatDoor.Mem Go.Proofs.YtlhmemnaiobgkaaGreatDoor.Laws Go.Proofs.YtlhmemnaiobgkaaGreatDoor.Ver Go.Proofs.YtlhmemnaiobgkaaGreatDoor.Ent Go.Proofs.YtlhmemnaiobgkaaGreatDoor.Fe Go.Proofs.YtlhmemnaiobgkaaGreatDoor.Draw
set_option linter.unusedVariables false
set_option linter.unusedSimpArgs false

theorem lv_D {x y : Nd} (hx : x.pre ∈ preL) (hy : y.pre ∈ preL) : lv x y = decide (x.a < y.a ∨ x.a = y.a ∧ (x.b < y.b ∨ x.b = y.b ∧ (x.c < y.c ∨ x.c = y.c ∧ rank x.pre < rank y.pre))) := lessV_D hx hy
theorem lin_pre : Lin fun n => n.pre ∈ preL where
  irr := by
    intro x hx
    rw [lv_D hx hx]
    simp only [decide_eq_false_iff_not]
    omega
  tr := by
    intro x y z hx hy hz
    rw [lv_D hx hy, lv_D hy hz, lv_D hx hz]
    simp only [decide_eq_true_eq]
    generalize rank x.pre = r1
    generalize rank y.pre = r2
    generalize rank z.pre = r3
    omega
  tot := by
    intro x y hx hy hp
    rw [lv_D hx hy, lv_D hy hx]
    simp only [decide_eq_false_iff_not]
    intro h1 h2
    have hr : rank x.pre = rank y.pre → x.pre = y.pre := (rank_pre hx hy).2.1
    generalize rank x.pre = r1 at *
    generalize rank y.pre = r2 at *
    have ha : x.a = y.a := by omega
    have hb : x.b = y.b := by omega
    have hc : x.c = y.c := by omega
    have hp2 := hr (by omega)
    cases x; cases y
    simp_all

end Go.Proofs.YtlhmemnaiobgkaaGreatDoor.Se
