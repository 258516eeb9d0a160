/- Texts in one: EntS, EntL, Se3, Lk5, EntI, Lk6. -/
import Derived.Test.YtbopliahafkecaaGreatDoorPk32
import Derived.Test.YtbopliahafkecaaGreatDoorPk13
import Derived.Test.YtbopliahafkecaaGreatDoorPk15
import Derived.Test.YtbopliahafkecaaGreatDoorPk30
import Derived.Test.YtbopliahafkecaaGreatDoorPk31
import Derived.Test.YtbopliahafkecaaGreatDoorPk24
/- Chapter 5: sizes of names and texts; the cells of an entry and of a need. -/
namespace Go.Proofs.YtbopliahafkecaaGreatDoor.Ent
open Go.RowKit Go.Proofs.YtbopliahafkecaaGreatDoor.Mem Go.Proofs.YtbopliahafkecaaGreatDoor.Laws Go.Proofs.YtbopliahafkecaaGreatDoor.Bytes Go.Proofs.YtbopliahafkecaaGreatDoor.Sha Go.Proofs.YtbopliahafkecaaGreatDoor.Ver Go.Proofs.YtbopliahafkecaaGreatDoor.Mod Go.Proofs.YtbopliahafkecaaGreatDoor.Draw
set_option linter.unusedVariables false
set_option linter.unusedSimpArgs false

theorem tot_name_bn (l : List Nd) (h : ∀ x ∈ l, Bn x) : Puts.tot (l.map name5) ≤ l.length * 200 := by
  induction l with
  | nil => simp [Puts.tot]
  | cons x r ih =>
    have h1 := h x (by simp)
    have h2 := name5_size (n := x)
    have h3 := ih (fun y hy => h y (by simp [hy]))
    unfold Bn at h1
    simp only [List.map_cons, Puts.tot, List.length_cons]
    omega
theorem put5_size {n : Nd} {l : List Nd} (hn : Bn n) (hl : ∀ x ∈ l, Bn x) (h : l.length ≤ 8) : (put5 n l).size ≤ 10000 := by
  unfold put5
  split
  · rw [txt_sizev, List.length_append, List.length_append]
    have h1 := Puts.tx_len (name5 n)
    have h2 := (Puts.num_len (l.length : Int)).2
    have h3 := Puts.txs_len (l.map name5)
    have h4 := tot_name_bn l hl
    have h5 := name5_size (n := n)
    unfold Bn at hn
    rw [List.length_map] at h3
    omega
  · exact Nat.zero_le _
theorem Bn.big {n : Nd} (h : Bn n) : n.path.size ≤ 1048576 ∧ n.pre.size ≤ 1048576 := by unfold Bn at h; omega

theorem ec_cells {w : World} {g : Nat} {n : Nd} {v : Value} {t : TypeId} {fr : Nat × Nat} (h : w.heap[g]? = some (.cells (ec n v) t fr)) : w.cell? ⟨g, 0, none⟩ = some (.string n.path) ∧ w.cell? ⟨g, 1, none⟩ = some (.int .i64 n.a) ∧ w.cell? ⟨g, 2, none⟩ = some (.int .i64 n.b) ∧ w.cell? ⟨g, 3, none⟩ = some (.int .i64 n.c) ∧ w.cell? ⟨g, 4, none⟩ = some (.string n.pre) ∧ w.cell? ⟨g, 5, none⟩ = some v :=
  ⟨row_cells h 0, row_cells h 1, row_cells h 2, row_cells h 3, row_cells h 4, row_cells h 5⟩
theorem nc_cells {w : World} {g : Nat} {n : Nd} {t : TypeId} {fr : Nat × Nat} (h : w.heap[g]? = some (.cells #[.string n.path, .int .i64 n.a, .int .i64 n.b, .int .i64 n.c, .string n.pre] t fr)) : w.cell? ⟨g, 0, none⟩ = some (.string n.path) ∧ w.cell? ⟨g, 1, none⟩ = some (.int .i64 n.a) ∧ w.cell? ⟨g, 2, none⟩ = some (.int .i64 n.b) ∧ w.cell? ⟨g, 3, none⟩ = some (.int .i64 n.c) ∧ w.cell? ⟨g, 4, none⟩ = some (.string n.pre) :=
  ⟨row_cells h 0, row_cells h 1, row_cells h 2, row_cells h 3, row_cells h 4⟩

end Go.Proofs.YtbopliahafkecaaGreatDoor.Ent

/- Chapter 5, draws: a text that may be that of an entry. -/
namespace Go.Proofs.YtbopliahafkecaaGreatDoor.Ent
open Go.RowKit Go.Proofs.YtbopliahafkecaaGreatDoor.Mem Go.Proofs.YtbopliahafkecaaGreatDoor.Laws Go.Proofs.YtbopliahafkecaaGreatDoor.Bytes Go.Proofs.YtbopliahafkecaaGreatDoor.Sha Go.Proofs.YtbopliahafkecaaGreatDoor.Ver Go.Proofs.YtbopliahafkecaaGreatDoor.Mod Go.Proofs.YtbopliahafkecaaGreatDoor.Draw
set_option linter.unusedVariables false
set_option linter.unusedSimpArgs false

/-- block g holds the bytes ys, as a conversion of a text leaves them -/
def Bw (w : World) (g : Nat) (ys : List Int) : Prop :=
  ∃ cur : Array Value, w.heap[g]? = some (.cells cur 5 (cur.size, cur.size + 1)) ∧ Byt ys ∧ ys.length ≤ cur.size ∧ ∀ j, j < ys.length → cur[j]? = (bs ys)[j]?
theorem strBw (w : World) (s : ByteArray) : ∃ (cap : Nat) (W : World), (convert 9 22 (.string s)).run Tryz.prog w = .ok (.slice (some ⟨w.heap.size, 0, none⟩) s.size cap) W ∧ s.size ≤ cap ∧ Bw W w.heap.size (sb s) ∧ Below w.heap.size w W := by
  refine ⟨_, _, Lib.run_convert_string_bytes w 9 22 5 s Tryz.underlying9 Tryz.underlying22 Tryz.underlying5, grownCap_ge w s.size 0 5, ⟨_, Lib.bytesWorld_at_new w 5 s, sb_byt s, ?_, fun j hj => ?_⟩, Lib.bytesWorld_below w 5 s⟩
  · rw [sb_len]
    have : s.size = s.data.size := rfl
    simp [Lib.bytesCells]
  · rw [sb_len] at hj
    have h := Lib.bytesWorld_cell w 5 s j hj
    have hrow := Lib.bytesWorld_at_new w 5 s
    rw [row_cells hrow j] at h
    rw [h, bs_get]
    have hj3 : j < s.data.size := hj
    simp [sb, List.getD]
    rw [Array.getElem?_eq_getElem hj3]
    simp
theorem Bw.front {w : World} {g cap : Nat} {ys : List Int} (h : Bw w g ys) (k : Nat) (hk : k ≤ ys.length) (hc : ys.length ≤ cap) : Sl w (.slice (some ⟨g, 0, none⟩) k cap) (bs (ys.take k)) := by
  obtain ⟨cur, h1, h2, h3, h4⟩ := h
  have hl : (bs (ys.take k)).length = k := by rw [bs_len, List.length_take]; omega
  refine ⟨some ⟨g, 0, none⟩, cap, by rw [hl], by omega, (fun e => (by cases e)), fun _ => ⟨g, 0, rfl, fun j hj => ?_⟩⟩
  rw [hl] at hj
  rw [Nat.zero_add, row_cells h1 j, h4 j (by omega), bs_get, bs_get, List.getElem?_take, if_pos hj]
theorem Bw.byt {w : World} {g : Nat} {ys : List Int} (h : Bw w g ys) (k : Nat) : Byt (ys.take k) := by
  obtain ⟨cur, h1, h2, h3, h4⟩ := h
  exact fun x hx => h2 x (List.mem_of_mem_take hx)
theorem Bw.keep {w w' : World} {g : Nat} {ys : List Int} (h : Bw w g ys) (hk : w'.heap[g]? = w.heap[g]?) : Bw w' g ys := by
  obtain ⟨cur, h1, h2⟩ := h
  exact ⟨cur, hk.trans h1, h2⟩
theorem Bw.lt {w : World} {g : Nat} {ys : List Int} (h : Bw w g ys) : g < w.heap.size := by
  obtain ⟨cur, h1, _⟩ := h
  exact (Array.getElem?_eq_some_iff.1 h1).1
theorem Bw.cell {w : World} {g : Nat} {ys : List Int} (h : Bw w g ys) {k : Nat} (hk : k < ys.length) : (∃ x, w.cell? ⟨g, k, none⟩ = some (.int .u8 x)) ∧ w.frozen? ⟨g, k, none⟩ = false := by
  obtain ⟨cur, h1, h2, h3, h4⟩ := h
  refine ⟨⟨ys[k], ?_⟩, ?_⟩
  · rw [row_cells h1 k, h4 k hk, bs_get]
    simp [hk]
  · simp [World.frozen?, h1]
    omega
theorem Bw.set {w : World} {g : Nat} {ys : List Int} (h : Bw w g ys) (k : Nat) (x : Int) (hx : 0 ≤ x ∧ x ≤ 255) : Bw (w.setCell ⟨g, k, none⟩ (.int .u8 x)) g (ys.set k x) := by
  obtain ⟨cur, h1, h2, h3, h4⟩ := h
  refine ⟨cur.setIfInBounds k (.int .u8 x), ?_, ?_, by simpa using h3, fun j hj => ?_⟩
  · simp [World.setCell, Array.getElem?_modify, h1]
  · intro y hy
    rcases List.mem_or_eq_of_mem_set hy with hy | rfl
    · exact h2 y hy
    · exact hx
  · rw [List.length_set] at hj
    have h5 := h4 j hj
    rw [bs_get, List.getElem?_set]
    rw [bs_get] at h5
    rw [Array.getElem?_setIfInBounds]
    by_cases hjk : k = j
    · subst hjk
      have : k < cur.size := by omega
      simp [this, hj]
    · rw [if_neg hjk, if_neg hjk, h5]

theorem put5_pos {n : Nd} {l : List Nd} (h : entry5 n l = true) : 1 ≤ (put5 n l).size := by
  unfold put5
  rw [if_pos h, txt_sizev, List.length_append, List.length_append]
  have h2 := (Puts.num_len (l.length : Int)).1
  omega
theorem entry_drawn {n : Nd} {l : List Nd} (hn : Dn n) (hl : Srt l) (h3 : l.length ≤ 3) (hs : self5 n l = false) : entry5 n l = true := by
  unfold entry5
  rw [hs, hn.2.1, srt_rise l hl]
  simp
  omega
/-- bytes to be put into a text -/
def byteL : List Int := [0, 1, 2, 97, 64, 128]
theorem byteL_bd : ∀ y ∈ byteL, 0 ≤ y ∧ y ≤ 255 := by decide

end Go.Proofs.YtbopliahafkecaaGreatDoor.Ent

/- Chapter 16: what the laws say of what is reached and selected; plain facts. -/
namespace Go.Proofs.YtbopliahafkecaaGreatDoor.Se
open Go.RowKit Go.Proofs.YtbopliahafkecaaGreatDoor.Mem Go.Proofs.YtbopliahafkecaaGreatDoor.Laws Go.Proofs.YtbopliahafkecaaGreatDoor.Ver Go.Proofs.YtbopliahafkecaaGreatDoor.Ent Go.Proofs.YtbopliahafkecaaGreatDoor.Fe
set_option linter.unusedVariables false
set_option linter.unusedSimpArgs false

/-- what is reached without a fault -/
structure Rch (l : List Ev) (roots row : List Nd) : Prop where
  app : ∃ t, row = roots ++ t
  nodup : row.Nodup
  len : row.length ≤ 60
  has : ∀ q ∈ row, Hs l row q
  least : ∀ C : List Nd, (∀ q ∈ roots, q ∈ C) → (∀ q ∈ C, ∀ e, find15 q l = some e → ∀ n ∈ e.l, n ∈ C) → ∀ q ∈ row, q ∈ C
theorem reach_form {l : List Ev} {roots : List Nd} (h : (reach16 l roots).2 = 0) : needs5 roots = true ∧ reach16 l roots = walk16 l 61 roots 0 := by
  unfold reach16 at h ⊢
  by_cases hn : needs5 roots = true
  · rw [if_pos hn]; exact ⟨hn, rfl⟩
  · rw [if_neg hn] at h; cases h
theorem reach_rch {l : List Ev} {roots : List Nd} (h : (reach16 l roots).2 = 0) : Rch l roots (reach16 l roots).1 := by
  obtain ⟨hn, he⟩ := reach_form h
  rw [he] at h ⊢
  obtain ⟨hu, hl⟩ := needs_up hn
  obtain ⟨h1, h2, h3, h4, h5⟩ := walk16_good l 61 roots 0 hu.nodup (by omega) (Nat.zero_le _) (by omega) (fun q hq => by simp at hq) h
  exact ⟨h1, h2, h3, h4, h5⟩
theorem Rch.root {l : List Ev} {roots row : List Nd} (h : Rch l roots row) {q : Nd} (hq : q ∈ roots) : q ∈ row := by
  obtain ⟨t, ht⟩ := h.app
  rw [ht]; simp [hq]
/-- what was selected covers all that was reached, and is closed -/
theorem Rch.closed {l : List Ev} {roots row out : List Nd} (h : Rch l roots row) (hs : Sel row out) : closed16 l out = true := by
  unfold closed16
  rw [List.all_eq_true]
  intro q hq
  obtain ⟨e, h1, _, h3⟩ := h.has q (hs.sub q hq)
  simp only [h1]
  exact covers_iff.2 fun n hn => hs.cov n (h3 n hn)
theorem Rch.covers {l : List Ev} {roots row out : List Nd} (h : Rch l roots row) (hs : Sel row out) : covers16 out roots = true :=
  covers_iff.2 fun n hn => hs.cov n (h.root hn)
theorem Sel.covers {row out ns : List Nd} (hs : Sel row out) (hn : ∀ n ∈ ns, n ∈ row) : covers16 out ns = true :=
  covers_iff.2 fun n h => hs.cov n (hn n h)
theorem Sel.some {row out : List Nd} (hs : Sel row out) (h : row ≠ []) : out ≠ [] := by
  cases row with
  | nil => exact absurd rfl h
  | cons q r =>
    obtain ⟨x, hx, _⟩ := hs.cov q (by simp)
    intro he
    rw [he] at hx
    cases hx
/-- what was selected, selected of itself -/
theorem select_again {D : Nd → Prop} (hL : Lin D) {l : List Ev} {roots row : List Nd} (h : Rch l roots row) (hD : ∀ x ∈ row, D x) (hn : needs5 (sel16 row) = true) :
    select16 l (sel16 row) = (sel16 row, 0) := by
  have hs := sel_sel hL row hD
  have hc : (reach16 l (sel16 row)).2 = 0 := by
    unfold reach16
    rw [if_pos hn]
    obtain ⟨hu, hl⟩ := needs_up hn
    exact walk16_ok l h.len h.has 61 _ 0 hu.nodup (by omega) hs.sub
  have h2 := reach_rch hc
  have hsub : ∀ x ∈ (reach16 l (sel16 row)).1, x ∈ row := h2.least row hs.sub (by
    intro q hq e he n hn
    obtain ⟨e2, a1, _, a3⟩ := h.has q hq
    rw [he] at a1
    simp only [Option.some.injEq] at a1
    subst a1
    exact a3 n hn)
  have hs2 := sel_sel hL (reach16 l (sel16 row)).1 (fun x hx => hD x (hsub x hx))
  unfold select16
  rw [hc, sel_again hL hs hs2 hD (fun x hx => h2.root hx) hsub]
/-- texts of a list, all apart, are no more than the list has -/
theorem up_len {l : List Nd} {P : List ByteArray} (h : Up l) (hP : ∀ x ∈ l, x.path ∈ P) : l.length ≤ P.length := by
  induction l generalizing P with
  | nil => simp
  | cons x r ih =>
    obtain ⟨h1, h2⟩ := List.pairwise_cons.1 h
    have hx : x.path ∈ P := hP x (by simp)
    have := ih (P := P.filter fun y => !eqT y x.path) h2 (fun y hy => List.mem_filter.2 ⟨hP y (by simp [hy]), by
      rw [eqT_no.2 (fun he => by have := h1 y hy; rw [he, lt_irr] at this; cases this)]; rfl⟩)
    have hlt : (P.filter fun y => !eqT y x.path).length < P.length := by
      rw [List.length_filter_lt_length_iff_exists]
      exact ⟨x.path, hx, by rw [(eqT_same _ _).2 rfl]; decide⟩
    simp
    omega
theorem up_rise : ∀ l : List Nd, Up l → (∀ x ∈ l, x.ok = true) → rise l = true := by
  intro l
  induction l with
  | nil => intro _ _; rfl
  | cons x r ih =>
    intro h ho
    obtain ⟨h1, h2⟩ := List.pairwise_cons.1 h
    cases r with
    | nil => exact ho x (by simp)
    | cons y r =>
      show (x.ok && ltT x.path y.path && rise (y :: r)) = true
      rw [ho x (by simp), h1 y (by simp), ih h2 (fun z hz => ho z (by simp [hz]))]
      rfl
theorem find_name {q : Nd} {l : List Ev} {e : Ev} (h : find15 q l = some e) : e.n = q ∧ e ∈ l := by
  unfold find15 at h
  exact ⟨(isN_iff _ _).1 (by simpa using List.find?_some h), List.mem_of_find?_eq_some h⟩
/-- what has an entry is right -/
theorem Hs.ok {l : List Ev} {row : List Nd} {q : Nd} (h : Hs l row q) : q.ok = true := by
  obtain ⟨e, h1, h2, _⟩ := h
  rw [← (find_name h1).1]
  unfold entry5 at h2
  simp only [Bool.and_eq_true] at h2
  exact h2.1.1.2
/-- all that is reached has what the roots have and all needs -/
theorem Rch.all {l : List Ev} {roots row : List Nd} (h : Rch l roots row) {D : Nd → Prop} (h1 : ∀ q ∈ roots, D q) (h2 : ∀ e ∈ l, ∀ n ∈ e.l, D n) : ∀ q ∈ row, D q := by
  haveI : DecidablePred D := fun a => Classical.propDecidable _
  intro q hq
  have := h.least (row.filter fun x => decide (D x)) (fun x hx => List.mem_filter.2 ⟨h.root hx, by simpa using h1 x hx⟩) (by
    intro x hx e he n hn
    obtain ⟨hx1, _⟩ := List.mem_filter.1 hx
    obtain ⟨e2, a1, _, a3⟩ := h.has x hx1
    rw [he] at a1
    simp only [Option.some.injEq] at a1
    subst a1
    exact List.mem_filter.2 ⟨a3 n hn, by simpa using h2 e (find_name he).2 n hn⟩) q hq
  simpa using (List.mem_filter.1 this).2

end Go.Proofs.YtbopliahafkecaaGreatDoor.Se

/- Chapter 17, draws: a text that may be that of a lock. -/
namespace Go.Proofs.YtbopliahafkecaaGreatDoor.Lk
open Go.RowKit Go.Proofs.YtbopliahafkecaaGreatDoor.Mem Go.Proofs.YtbopliahafkecaaGreatDoor.Laws Go.Proofs.YtbopliahafkecaaGreatDoor.Bytes Go.Proofs.YtbopliahafkecaaGreatDoor.Sha Go.Proofs.YtbopliahafkecaaGreatDoor.Ver Go.Proofs.YtbopliahafkecaaGreatDoor.Mod Go.Proofs.YtbopliahafkecaaGreatDoor.Ent Go.Proofs.YtbopliahafkecaaGreatDoor.He Go.Proofs.YtbopliahafkecaaGreatDoor.Fe Go.Proofs.YtbopliahafkecaaGreatDoor.Se Go.Proofs.YtbopliahafkecaaGreatDoor.Draw
set_option linter.unusedVariables false
set_option linter.unusedSimpArgs false

/-- bytes to be put into a text -/
def byteK : List Int := [32, 10, 48, 103, 64, 97]
theorem byteK_bd : ∀ y ∈ byteK, 0 ≤ y ∧ y ≤ 255 := by decide
theorem lock_drawn {ls : List ByteArray} {R : List Nd} (h : ls.length ≤ 8) (hR : R.length ≤ 3) (hd : Dns R) : lockOk (headOf ls) R = true := by
  have h1 : okH (headOf ls) = true := by
    unfold headOf okH
    rw [if_pos (by omega)]
    simp only [decide_eq_true_eq]
    exact ⟨⟨by omega, by omega⟩, Tr.root_size ls⟩
  unfold lockOk
  rw [h1, up_rise R hd.up (fun x hx => (hd.all x hx).2.1)]
  simp
  omega
theorem rest_small (R : List Nd) (h : ∀ x ∈ R, Dq x) : (rest R).length ≤ R.length * 200 := by
  induction R with
  | nil => simp [rest]
  | cons x r ih =>
    have h1 := Dn.size (h x (by simp))
    have h2 := name5_size (n := x)
    have h3 := ih (fun y hy => h y (by simp [hy]))
    simp only [rest, List.length_append, sb_len, List.length_cons, List.length_nil]
    omega
theorem lock_size {h : Hd} {R : List Nd} (hk : lockOk h R = true) (hd : ∀ x ∈ R, Dq x) : 1 ≤ (lock h R).size ∧ (lock h R).size ≤ 100 + R.length * 200 := by
  obtain ⟨h1, h2, h3⟩ := lockOk_parts hk
  have h4 : h.r.size = 32 := (of_decide_eq_true h1).2
  have h5 := rest_small R hd
  have h6 := digF_len 6 h.n.toNat
  unfold lock
  rw [if_pos hk, txt_sizev]
  unfold line0 word0
  simp only [List.length_append, hexs_len, sb_len, List.length_cons, List.length_nil, h4]
  omega

set_option maxRecDepth 1000000 in
set_option maxHeartbeats 4000000 in
theorem getLock_any (w : World) (vb : Value) (xs : List Int) (hs : Sl w vb (bs xs)) (hby : Byt xs) (hx : xs.length ≤ 140737488355328) :
    Calls Tryz.prog 10 #[vb] w fun e w' => ∃ t : ByteArray, e = .returned (.string t) ∧ t.size ≤ 10000 ∧ Below w.heap.size w w' := by
  go_enter Tryz.func10, Tryz.ntmps10
  go_wp2_with fail
  refine (new_any w vb xs hs hby hx).mono ?_
  rintro e w1 ⟨rfl, d1⟩
  have gl1 := d1.cur.lt
  go_wp2_with fail
  have HSW : Hid (Sl w vb (bs xs)) := hs
  refine (Tr.list_any w w1 w.heap.size vb xs hs hby hx d1.below (Nat.le_refl _) d1.cur).mono ?_
  rintro e wa ⟨va, ls, rfl, hls8, hls3, oa, da⟩
  have qH := headOf_spec wa va ls oa.sl (by omega) (fun s hs => by have := hls3 s hs; omega)
  have hHz := headOf_size ls
  have hgl1 : w.heap.size < wa.heap.size := da.cur.lt
  go_wp2_with fail
  refine qH.mono ?_
  rintro e wb ⟨rfl, bb⟩
  have Db : Drawn w w1 w.heap.size vb xs wb := da.on (Nat.le_refl _) gl1 (bb.mono da.apart.size)
  clear qH oa
  go_wp2_with fail
  refine (needs16_any w wb w.heap.size vb xs hs hby hx Db.below (Nat.le_refl _) Db.cur).mono ?_
  rintro e wc ⟨v, R, rfl, hR3, hDS, oc, dc⟩
  have Dc : Drawn w w1 w.heap.size vb xs wc := Db.and dc
  have hK := lock_drawn hls8 hR3 hDS
  obtain ⟨hp1, hp2⟩ := lock_size hK hDS.all
  have hp2 : (lock (headOf ls) R).size ≤ 9000 := by omega
  have q3 := lock_spec wc (headOf ls) v R oc.sd (by omega) (by omega) (fun x hx => by have := Dn.size (hDS.all x hx); omega)
  obtain ⟨s, hs5⟩ : ∃ s, lock (headOf ls) R = s := ⟨_, rfl⟩
  rw [hs5] at q3 hp1 hp2
  clear hK hs5 hDS hR3 oc hls8 hls3 Db
  go_wp2_with fail
  refine q3.mono ?_
  rintro e w3 ⟨rfl, b3⟩
  have D3 : Drawn w w1 w.heap.size vb xs w3 := Dc.on (Nat.le_refl _) gl1 (b3.mono Dc.apart.size)
  have hg3 := D3.cur.lt
  clear q3 d1 da dc Dc bb b3
  obtain ⟨cap, W4, hcv, hcap, hbw, b4⟩ := strBw w3 s
  have D4 : Drawn w w1 w.heap.size vb xs W4 := D3.on (Nat.le_refl _) gl1 (b4.mono D3.apart.size)
  have q5 := below_any w W4 w.heap.size vb xs 4 (by omega) (by omega) hs hby hx D4.below (Nat.le_refl _) D4.cur
  clear D3 b4
  go_wp2_with fail
  refine q5.mono ?_
  rintro e w5 ⟨x, rfl, hx0, hx5, d5⟩
  have hne : w3.heap.size ≠ w.heap.size := by omega
  have HB5 : Hid (Bw w5 w3.heap.size (sb s)) := hbw.keep (d5.apart.block w3.heap.size hbw.lt (by omega))
  have D5 : Drawn w w1 w.heap.size vb xs w5 := D4.and d5
  have HL : Hid ((sb s).length = s.size) := sb_len s
  clear q5 hcv hbw D4 d5
  by_cases h0 : x = 0
  · have e0 : (x == 0) = true := by simpa using h0
    have q6 := below_any w w5 w.heap.size vb xs (s.size : Int) (by omega) (by omega) hs hby hx D5.below (Nat.le_refl _) D5.cur
    clear h0 hx0 hx5
    go_wp2_with fail
    refine q6.mono ?_
    rintro e w6 ⟨k', rfl, hk0, hks, d6⟩
    obtain ⟨k, rfl⟩ : ∃ k : Nat, k' = (k : Int) := ⟨k'.toNat, by omega⟩
    have hk : k < s.size := by omega
    have HB6 : Hid (Bw w6 w3.heap.size (sb s)) := HB5.out.keep (d6.apart.block w3.heap.size HB5.out.lt (by omega))
    have D6 : Drawn w w1 w.heap.size vb xs w6 := D5.and d6
    have n6 : ∀ o, Drawn w w1 w.heap.size vb xs (w6.alloc o) := fun o => D6.on (Nat.le_refl _) gl1 ((Below.refl _ _).alloc D6.apart.size _)
    have HB7 : ∀ o, Hid (Bw (w6.alloc o) w3.heap.size (sb s)) := fun o => HB6.out.keep (heap_alloc_old w6 o HB6.out.lt)
    have gl6 := D6.cur.lt
    clear q6 HB5 D5 d6
    go_wp2_with fail
    refine (int_any w _ w.heap.size vb xs w6.heap.size byteK (lit_block _ _ _) (by omega) (by decide) (by decide) hs hby hx (n6 _).below (Nat.le_refl _) (n6 _).cur).mono ?_
    rintro e w7 ⟨y, rfl, hy, d7⟩
    have HB8 : Hid (Bw w7 w3.heap.size (sb s)) := (HB7 _).out.keep (d7.apart.block w3.heap.size (HB7 _).out.lt (by omega))
    have hyb := byteK_bd y hy
    have B7 := d7.below
    obtain ⟨⟨z, c7⟩, f7⟩ := HB8.out.cell (k := k) (by rw [HL.out]; exact hk)
    have hset := (HB8.out.set k y hyb)
    have hsl := (hset.front (cap := cap) s.size (by rw [List.length_set, HL.out]; exact Nat.le_refl _) (by rw [List.length_set, HL.out]; exact hcap))
    have hcv := Sha.conv_sl hsl (hset.byt s.size)
    have hBB : Below w.heap.size w (w7.setCell ⟨w3.heap.size, k, none⟩ (.int .u8 y)) := B7.setCell (p := ⟨w3.heap.size, k, none⟩) (by show _ ≤ w3.heap.size; omega) _
    have hz : (Plain.txt (List.take s.size ((sb s).set k y))).size ≤ 10000 := by rw [txt_sizev, List.length_take]; omega
    obtain ⟨t, ht⟩ : ∃ t, Plain.txt (List.take s.size ((sb s).set k y)) = t := ⟨_, rfl⟩
    rw [ht] at hcv hz
    clear ht hset hsl HB8 HB7 n6 HB6 D6 d7 hy
    have hyw : y % 256 = y := by omega
    go_wp2
    go_ret
    exact ⟨t, rfl, hz, hBB⟩
  have e0 : (x == 0) = false := by simpa using h0
  by_cases h1 : x = 1
  · have e1 : (x == 1) = true := by simpa using h1
    have q6 := below_any w w5 w.heap.size vb xs (s.size : Int) (by omega) (by omega) hs hby hx D5.below (Nat.le_refl _) D5.cur
    clear h0 h1 hx0 hx5
    go_wp2_with fail
    refine q6.mono ?_
    rintro e w6 ⟨k', rfl, hk0, hks, d6⟩
    obtain ⟨k, rfl⟩ : ∃ k : Nat, k' = (k : Int) := ⟨k'.toNat, by omega⟩
    have hk : k < s.size := by omega
    have HB6 : Hid (Bw w6 w3.heap.size (sb s)) := HB5.out.keep (d6.apart.block w3.heap.size HB5.out.lt (by omega))
    have B6 := d6.below
    have hsl := (HB6.out.front (cap := cap) k (by rw [HL.out]; omega) (by rw [HL.out]; exact hcap))
    have hcv := Sha.conv_sl hsl (HB6.out.byt k)
    have hz : (Plain.txt (List.take k (sb s))).size ≤ 10000 := by rw [txt_sizev, List.length_take]; omega
    obtain ⟨t, ht⟩ : ∃ t, Plain.txt (List.take k (sb s)) = t := ⟨_, rfl⟩
    rw [ht] at hcv hz
    have hkc : k ≤ cap := by omega
    clear ht hsl HB6 HB5 D5 d6 q6
    go_wp2
    go_ret
    exact ⟨t, rfl, hz, B6⟩
  have e1 : (x == 1) = false := by simpa using h1
  have B5 := D5.below
  have hsl := (HB5.out.front (cap := cap) s.size (by rw [HL.out]; exact Nat.le_refl _) (by rw [HL.out]; exact hcap))
  have hcv := Sha.conv_sl hsl (HB5.out.byt s.size)
  have hz : (Plain.txt (List.take s.size (sb s))).size ≤ 10000 := by rw [txt_sizev, List.length_take]; omega
  obtain ⟨t, ht⟩ : ∃ t, Plain.txt (List.take s.size (sb s)) = t := ⟨_, rfl⟩
  rw [ht] at hcv hz
  clear ht hsl HB5 D5 h0 h1
  go_wp2
  go_ret
  exact ⟨t, rfl, hz, B5⟩

end Go.Proofs.YtbopliahafkecaaGreatDoor.Lk

/- Chapter 5, the laws' helpers: lists of needs and entries held against each other, as the language does it. -/
namespace Go.Proofs.YtbopliahafkecaaGreatDoor.Ent
open Go.RowKit Go.Proofs.YtbopliahafkecaaGreatDoor.Mem Go.Proofs.YtbopliahafkecaaGreatDoor.Laws Go.Proofs.YtbopliahafkecaaGreatDoor.Bytes Go.Proofs.YtbopliahafkecaaGreatDoor.Sha Go.Proofs.YtbopliahafkecaaGreatDoor.Ver Go.Proofs.YtbopliahafkecaaGreatDoor.Mod
set_option linter.unusedVariables false
set_option linter.unusedSimpArgs false

theorem fieldsN : Tryz.prog.underlying 47 = some (.struct (Tryz.prog.fieldsOf 47)) := by kernel_rfl
theorem heldN : Tryz.prog.stoodInHeld 47 = false := by kernel_rfl
theorem guardN : Tryz.prog.eqGuardType Tryz.prog.depth 47 = false := by kernel_rfl
theorem eqVs (w : World) (a1 b1 c1 : Int) (p1 : ByteArray) :
    (Op.equalIn 9999 45 (.agg #[.int .i64 a1, .int .i64 b1, .int .i64 c1, .string p1]) (.agg #[.int .i64 a1, .int .i64 b1, .int .i64 c1, .string p1])).run Tryz.prog w = .ok true w := by
  rw [run_equalIn_struct w 9998 _ _ _ fieldsV heldV]
  simp [Program.fieldsOf, Tryz.underlying45, Op.eqFields, go_sem, run_underlying Tryz.underlying3, run_underlying Tryz.underlying9, Tryz.underlying3, Tryz.underlying9, part]
theorem eqNs (w : World) (s : ByteArray) (a1 b1 c1 : Int) (p1 : ByteArray) :
    (Op.equalIn 10000 47 (.agg #[.string s, .int .i64 a1, .int .i64 b1, .int .i64 c1, .string p1]) (.agg #[.string s, .int .i64 a1, .int .i64 b1, .int .i64 c1, .string p1])).run Tryz.prog w = .ok true w := by
  rw [run_equalIn_struct w 9999 _ _ _ fieldsN heldN]
  simp [Program.fieldsOf, Tryz.underlying47, Op.eqFields, go_sem, run_underlying Tryz.underlying9, Tryz.underlying9, Tryz.underlying45, part, eqVs]
theorem neqNs (w : World) (s : ByteArray) (a1 b1 c1 : Int) (p1 : ByteArray) :
    (binOp .neq 47 (.agg #[.string s, .int .i64 a1, .int .i64 b1, .int .i64 c1, .string p1]) (.agg #[.string s, .int .i64 a1, .int .i64 b1, .int .i64 c1, .string p1])).run Tryz.prog w = .ok (.bool false) w := by
  rw [run_neq_struct, eqNs]
  rfl
theorem grdN (w : World) (op : BinOp) (x y : Operand) (xs ys : Array Value) : (eqGuard op 47 x y (.agg xs) (.agg ys)).run Tryz.prog w = .ok () w := run_eqGuard_agg w op 47 x y xs ys guardN

set_option maxRecDepth 1000000 in
set_option maxHeartbeats 4000000 in
theorem same_needs (w : World) (v1 v2 : Value) (l : List Nd) (h1 : Sd w v1 l) (h2 : Sd w v2 l) (hx : l.length ≤ 1000000000000) :
    Calls Tryz.prog 12 #[v1, v2] w fun e w' => e = .returned (.bool true) ∧ Below w.heap.size w w' := by
  have HS1 : Hid (Sd w v1 l) := h1
  have HS2 : Hid (Sd w v2 l) := h2
  obtain ⟨_, ao, cap, rfl, hcap, _, _⟩ := h1
  obtain ⟨_, ao2, cap2, rfl, hcap2, _, _⟩ := h2
  have n1 : ((l.length : Int) != (l.length : Int)) = false := by simp
  go_enter Tryz.func12, Tryz.ntmps12
  go_wp2
  go_loopw [5] (fun i wr => ∃ k : Nat, k ≤ l.length ∧ i = .int .i64 (k : Int) ∧ Below w.heap.size w wr) (fun i _ => l.length - (intOf i).toNat)
  case atStart => exact ⟨0, Nat.zero_le _, rfl, Below.refl _ _⟩
  case round =>
    obtain ⟨k, hk, rfl, hB⟩ := hrel
    by_cases hlt : k < l.length
    · obtain ⟨n, hn⟩ : ∃ n, l[k]? = some n := ⟨l[k], by simp [hlt]⟩
      obtain ⟨b, off, cap', he, _, c0, c1, c2, c3, c4⟩ := Sd.at (HS1.out.later hB) hn
      simp only [Value.slice.injEq] at he
      obtain ⟨rfl, _, rfl⟩ := he
      obtain ⟨b2, off2, cap2', he2, _, e0, e1, e2, e3, e4⟩ := Sd.at (HS2.out.later hB) hn
      simp only [Value.slice.injEq] at he2
      obtain ⟨rfl, _, rfl⟩ := he2
      have hgd := grdN
      have hqn := fun W => neqNs W n.path n.a n.b n.c n.pre
      clear hn n1
      go_wp2_with fail
      refine wp_region_held_drew (S := fun w' => w'.cell? ⟨b, off + k * 5, none⟩ = some (.string n.path) ∧ w'.cell? ⟨b, off + k * 5 + 1, none⟩ = some (.int .i64 n.a) ∧ w'.cell? ⟨b, off + k * 5 + 2, none⟩ = some (.int .i64 n.b) ∧ w'.cell? ⟨b, off + k * 5 + 3, none⟩ = some (.int .i64 n.c) ∧ w'.cell? ⟨b, off + k * 5 + 4, none⟩ = some (.string n.pre) ∧ w'.cell? ⟨b2, off2 + k * 5, none⟩ = some (.string n.path) ∧ w'.cell? ⟨b2, off2 + k * 5 + 1, none⟩ = some (.int .i64 n.a) ∧ w'.cell? ⟨b2, off2 + k * 5 + 2, none⟩ = some (.int .i64 n.b) ∧ w'.cell? ⟨b2, off2 + k * 5 + 3, none⟩ = some (.int .i64 n.c) ∧ w'.cell? ⟨b2, off2 + k * 5 + 4, none⟩ = some (.string n.pre)) (by kernel_rfl) ⟨c0, c1, c2, c3, c4, e0, e1, e2, e3, e4⟩ (fun hHeld => ?_)
      (refine wpAnyH_take (i := 0) (v := ?v0x1) rfl (by kernel_rfl) (by kernel_rfl) (by kernel_rfl) (fun _ _ _ h => h) (Or.inl ⟨by rfl, ?hy0x1⟩) (by assumption) ?rest0x1; case hy0x1 => (intro w hSw; (try dsimp only at hSw); go_split_ands; go_simp; (try with_reducible rfl)))
      try simp only [Act.put, List.setIfInBounds_toArray, List.set_cons_zero, List.set_cons_succ, List.getElem_toArray, List.getElem_cons_zero, List.getElem_cons_succ]
      (refine wpAnyH_take (i := 1) (v := ?v1x2) rfl (by kernel_rfl) (by kernel_rfl) (by kernel_rfl) (fun _ _ _ h => h) (Or.inl ⟨by rfl, ?hy1x2⟩) (by assumption) ?rest1x2; case hy1x2 => (intro w hSw; (try dsimp only at hSw); go_split_ands; go_simp; (try with_reducible rfl)))
      try simp only [Act.put, List.setIfInBounds_toArray, List.set_cons_zero, List.set_cons_succ, List.getElem_toArray, List.getElem_cons_zero, List.getElem_cons_succ]
      (refine wpAnyH_take (i := 2) (v := ?v2x3) rfl (by kernel_rfl) (by kernel_rfl) (by kernel_rfl) (fun _ _ _ h => h) (Or.inl ⟨by rfl, ?hy2x3⟩) (by assumption) ?rest2x3; case hy2x3 => (intro w hSw; (try dsimp only at hSw); go_split_ands; go_simp; (try with_reducible rfl)))
      try simp only [Act.put, List.setIfInBounds_toArray, List.set_cons_zero, List.set_cons_succ, List.getElem_toArray, List.getElem_cons_zero, List.getElem_cons_succ]
      (refine wpAnyH_take (i := 3) (v := ?v3x4) rfl (by kernel_rfl) (by kernel_rfl) (by kernel_rfl) (fun _ _ _ h => h) (Or.inl ⟨by rfl, ?hy3x4⟩) (by assumption) ?rest3x4; case hy3x4 => (intro w hSw; (try dsimp only at hSw); go_split_ands; go_simp; (try with_reducible rfl)))
      try simp only [Act.put, List.setIfInBounds_toArray, List.set_cons_zero, List.set_cons_succ, List.getElem_toArray, List.getElem_cons_zero, List.getElem_cons_succ]
      (refine wpAnyH_take (i := 4) (v := ?v4x5) rfl (by kernel_rfl) (by kernel_rfl) (by kernel_rfl) (fun _ _ _ h => h) (Or.inl ⟨by rfl, ?hy4x5⟩) (by assumption) ?rest4x5; case hy4x5 => (intro w hSw; (try dsimp only at hSw); go_split_ands; go_simp; (try with_reducible rfl)))
      try simp only [Act.put, List.setIfInBounds_toArray, List.set_cons_zero, List.set_cons_succ, List.getElem_toArray, List.getElem_cons_zero, List.getElem_cons_succ]
      (refine wpAnyH_take (i := 5) (v := ?v5x6) rfl (by kernel_rfl) (by kernel_rfl) (by kernel_rfl) (fun _ _ _ h => h) (Or.inl ⟨by rfl, ?hy5x6⟩) (by assumption) ?rest5x6; case hy5x6 => (intro w hSw; (try dsimp only at hSw); go_split_ands; go_simp; (try with_reducible rfl)))
      try simp only [Act.put, List.setIfInBounds_toArray, List.set_cons_zero, List.set_cons_succ, List.getElem_toArray, List.getElem_cons_zero, List.getElem_cons_succ]
      (refine wpAnyH_take (i := 6) (v := ?v6x7) rfl (by kernel_rfl) (by kernel_rfl) (by kernel_rfl) (fun _ _ _ h => h) (Or.inl ⟨by rfl, ?hy6x7⟩) (by assumption) ?rest6x7; case hy6x7 => (intro w hSw; (try dsimp only at hSw); go_split_ands; go_simp; (try with_reducible rfl)))
      try simp only [Act.put, List.setIfInBounds_toArray, List.set_cons_zero, List.set_cons_succ, List.getElem_toArray, List.getElem_cons_zero, List.getElem_cons_succ]
      (refine wpAnyH_take (i := 7) (v := ?v7x8) rfl (by kernel_rfl) (by kernel_rfl) (by kernel_rfl) (fun _ _ _ h => h) (Or.inl ⟨by rfl, ?hy7x8⟩) (by assumption) ?rest7x8; case hy7x8 => (intro w hSw; (try dsimp only at hSw); go_split_ands; go_simp; (try with_reducible rfl)))
      try simp only [Act.put, List.setIfInBounds_toArray, List.set_cons_zero, List.set_cons_succ, List.getElem_toArray, List.getElem_cons_zero, List.getElem_cons_succ]
      (refine wpAnyH_take (i := 8) (v := ?v8x9) rfl (by kernel_rfl) (by kernel_rfl) (by kernel_rfl) (fun _ _ _ h => h) (Or.inl ⟨by rfl, ?hy8x9⟩) (by assumption) ?rest8x9; case hy8x9 => (intro w hSw; (try dsimp only at hSw); go_split_ands; go_simp; (try with_reducible rfl)))
      try simp only [Act.put, List.setIfInBounds_toArray, List.set_cons_zero, List.set_cons_succ, List.getElem_toArray, List.getElem_cons_zero, List.getElem_cons_succ]
      refine wpAnyH_done (by kernel_rfl) ?_ _
      clear hHeld c0 c1 c2 c3 c4 e0 e1 e2 e3 e4
      go_wp2
      go_roundw
      case rel => exact ⟨k + 1, by omega, by go_num, Below.drew hB⟩
      case measure => simp [intOf]; omega
    · go_wp2
      go_ret
      exact ⟨rfl, hB⟩

end Go.Proofs.YtbopliahafkecaaGreatDoor.Ent

/- Chapter 17: FnLocks, over contracts of the landed functions. -/
namespace Go.Proofs.YtbopliahafkecaaGreatDoor.Lk
open Go.RowKit Go.Proofs.YtbopliahafkecaaGreatDoor.Mem Go.Proofs.YtbopliahafkecaaGreatDoor.Laws Go.Proofs.YtbopliahafkecaaGreatDoor.Bytes Go.Proofs.YtbopliahafkecaaGreatDoor.Sha Go.Proofs.YtbopliahafkecaaGreatDoor.Ver Go.Proofs.YtbopliahafkecaaGreatDoor.Mod Go.Proofs.YtbopliahafkecaaGreatDoor.Ent Go.Proofs.YtbopliahafkecaaGreatDoor.He Go.Proofs.YtbopliahafkecaaGreatDoor.Fe Go.Proofs.YtbopliahafkecaaGreatDoor.Se Go.Proofs.YtbopliahafkecaaGreatDoor.Draw
set_option linter.unusedVariables false
set_option linter.unusedSimpArgs false

theorem parse_nil : parse ⟨#[]⟩ = none17 := by unfold parse; rw [if_neg (by rw [form_nil]; simp)]
theorem mem_mid {L : List ByteArray} {t : ByteArray} (h : t ∈ L.tail.dropLast) : t ∈ L := List.mem_of_mem_tail (List.dropLast_subset _ h)
theorem parse_sz {t : ByteArray} {y : Hd} {n : List Nd} (h : parse t = (y, n, true)) : y.r.size = 32 ∧ n.length ≤ 60 ∧ ∀ x ∈ n, x.path.size ≤ t.size ∧ x.pre.size ≤ t.size := by
  obtain ⟨h1, h2⟩ := (parse_iff t y n).1 h
  obtain ⟨h3, h4, h5⟩ := lockOk_parts (lock_ok h1 h2)
  refine ⟨(of_decide_eq_true h3).2, h4, ?_⟩
  have h6 : n = list17 t := by
    unfold parse at h
    split at h
    · exact (congrArg (fun z => z.2.1) h).symm
    · unfold none17 at h; simp at h
  subst h6
  intro x hx
  unfold list17 mid17 at hx
  obtain ⟨u, hu, rfl⟩ := List.mem_map.1 hx
  have h7 := splitT_size 10 t u (mem_mid hu)
  have h8 := pname_size u
  unfold need1
  omega
theorem lock_szn {h : Hd} {R : List Nd} (hd : Dl h R) : (lock h R).size ≤ 2000 := by
  cases hk : lockOk h R with
  | false => rw [lock_no hk]; exact Nat.zero_le _
  | true => have := (lock_size hk hd.all).2; have := hd.len; omega

set_option maxRecDepth 1000000 in
set_option maxHeartbeats 8000000 in
theorem locks_law (w : World) (v0 : Value) (xs0 : List Int) (h0 : Sl w v0 (bs xs0)) (y0 : Byt xs0) (m0 : xs0.length ≤ maxLen)
    (iL : ∀ W, Below w.heap.size w W → ∀ (h : Hd) (v : Value) (l : List Nd), Sd W v l → l.length ≤ 100000 → h.r.size ≤ 100000 → (∀ x ∈ l, x.path.size ≤ 100000 ∧ x.pre.size ≤ 100000) → Calls Tryz.prog 7 #[.agg #[.int .i64 h.n, .string h.r], v] W fun e w' => e = .returned (.string (lock h l)) ∧ Below W.heap.size W w')
    (iP : ∀ W, Below w.heap.size w W → ∀ s : ByteArray, s.size ≤ 10000 → Calls Tryz.prog 9 #[.string s] W fun e w' => ∃ v', e = .returned (.tuple #[.agg #[.int .i64 (parse s).1.n, .string (parse s).1.r], v', .bool (parse s).2.2]) ∧ Od w' W.heap.size w'.heap.size v' (parse s).2.1 ∧ Below W.heap.size W w') :
    Calls Tryz.prog 3 #[v0] w fun e w' => e = .returned (.bool true) ∧ Below w.heap.size w w' := by
  have hs := h0
  have hby := y0
  obtain ⟨ao0, cap0, rfl, -, -, -⟩ := h0
  rw [Mem.bs_len] at hs ⊢
  clear m0 y0
  by_cases hbig : 1048576 < xs0.length
  · have qb := big_yes w ao0 xs0.length cap0 hbig
    clear iL iP
    go_enter Tryz.func3, Tryz.ntmps3
    go_wp2_with fail
    refine qb.mono ?_
    rintro e w1 ⟨rfl, hw1⟩
    subst hw1
    go_wp2
    go_ret
    exact ⟨rfl, Below.refl _ _⟩
  have qb := big_no w ao0 xs0.length cap0 hbig
  have qd : ∀ W, Below w.heap.size w W → _ := fun W hW => drawLock_any W _ xs0 (hs.later hW) hby (by omega)
  have qe : ∀ W, Below w.heap.size w W → _ := fun W hW => getLock_any W _ xs0 (hs.later hW) hby (by omega)
  clear hbig hs hby
  have B0 : Hid (Below w.heap.size w w) := Below.refl _ _
  go_enter Tryz.func3, Tryz.ntmps3
  go_wp2_with fail
  refine qb.mono ?_
  rintro e W_ ⟨rfl, hW_⟩
  subst hW_
  clear qb
  go_wp2_with fail
  refine (qd w B0.out).mono ?_
  rintro e W1 ⟨h, v, R, rfl, hD, o8, b1⟩
  obtain ⟨a8, c8, rfl⟩ := Od.slice o8
  clear qd
  have z1 := b1.size
  have B1 := Ke.b B0 b1
  have f_d1 : Hid (Odt W1 w.heap.size W1.heap.size (.slice a8 R.length c8) R) := ⟨o8, Nat.le_refl _⟩
  clear o8
  have hLs := lock_szn hD
  have hdl := hD.len
  have hdr := hD.root
  have hdz : ∀ x ∈ R, x.path.size ≤ 100000 ∧ x.pre.size ≤ 100000 := fun x hx => by have := Dn.size (hD.all x hx); omega
  have hdz2 : ∀ x ∈ R, x.path.size ≤ 1000000000 ∧ x.pre.size ≤ 1000000000 := fun x hx => by have := hdz x hx; omega
  clear hD
  obtain ⟨W2, HW2, b2, y2, hS2, r_h2⟩ := Ke.l1 W1 #[.int .i64 h.n, .string h.r] 25
  have z2 := b2.size
  have B2 := Ke.b B1 b2
  have c_h2 := Ke.c r_h2
  have f_d2 : Hid (Odt W2 w.heap.size W1.heap.size (.slice a8 R.length c8) R) := Odt.later f_d1.out b2
  clear f_d1
  obtain ⟨S, hS⟩ : ∃ S, lock h R = S := ⟨_, rfl⟩
  have q1 := iL W2 B2.out h _ R f_d2.out.1.sd (by omega) (by omega) hdz
  rw [hS] at q1 hLs
  have HSS : Hid (lock h R = S) := hS
  clear hS
  go_wp2_with fail
  rw [HW2.out]
  refine (q1).mono ?_
  rintro e W3 ⟨rfl, b3⟩
  have z3 := b3.size
  have B3 := Ke.b B2 b3
  have r_h3 := Ke.r r_h2 b3
  have c_h3 := Ke.c r_h3
  clear r_h2 c_h2
  have f_d3 : Hid (Odt W3 w.heap.size W1.heap.size (.slice a8 R.length c8) R) := Odt.later f_d2.out b3
  clear f_d2
  clear q1
  have q2 := lock_spec W3 h _ R f_d3.out.1.sd (by omega) (by omega) hdz2
  rw [HSS.out] at q2
  go_wp2_with (refine wpList_load_row rfl 25 _ rfl (W1.heap.size) rfl 25 (hc h) (0, 0) _ r_h3.out Tryz.underlying25 rfl (sizeH _) ?_)
  go_wp2_with fail
  refine (q2).mono ?_
  rintro e W4 ⟨rfl, b4⟩
  have z4 := b4.size
  have B4 := Ke.b B3 b4
  have r_h4 := Ke.r r_h3 b4
  have c_h4 := Ke.c r_h4
  clear r_h3 c_h3
  have f_d4 : Hid (Odt W4 w.heap.size W1.heap.size (.slice a8 R.length c8) R) := Odt.later f_d3.out b4
  clear f_d3
  clear q2
  have q3 := iP W4 B4.out S (by omega)
  cases hk : lockOk h R
  · obtain rfl : S = ⟨#[]⟩ := HSS.out.symm.trans (lock_no hk)
    rw [parse_nil] at q3
    unfold none17 at q3
    simp only at q3
    go_wp2_with fail
    refine q3.mono ?_
    rintro e W5 ⟨v3, rfl, o3, b5⟩
    clear q3 o3
    have z5 := b5.size
    have B5 := Ke.b B4 b5
    have r_h5 := Ke.r r_h4 b5
    have c_h5 := Ke.c r_h5
    clear r_h4 c_h4
    have f_d5 : Hid (Odt W5 w.heap.size W1.heap.size (.slice a8 R.length c8) R) := Odt.later f_d4.out b5
    clear f_d4
    go_wp2
    go_ret
    exact ⟨rfl, B5.out.alloc B5.out.size _⟩
  · have hp : parse S = (h, R, true) := by rw [← HSS.out]; exact parse_lock hk
    rw [hp] at q3
    simp only at q3
    have hSe : S.toList.isEmpty = false := by rw [toList_empty, decide_eq_false_iff_not]; intro h9; exact lock_pos hk (HSS.out.trans (nilB h9))
    go_wp2_with fail
    refine q3.mono ?_
    rintro e W5 ⟨v3, rfl, o3, b5⟩
    obtain ⟨a3, c3, rfl⟩ := Od.slice o3
    clear q3 hp
    have z5 := b5.size
    have B5 := Ke.b B4 b5
    have r_h5 := Ke.r r_h4 b5
    have c_h5 := Ke.c r_h5
    clear r_h4 c_h4
    have f_d5 : Hid (Odt W5 w.heap.size W1.heap.size (.slice a8 R.length c8) R) := Odt.later f_d4.out b5
    clear f_d4
    have f_m5 : Hid (Odt W5 W4.heap.size W5.heap.size (.slice a3 R.length c3) R) := ⟨o3, Nat.le_refl _⟩
    clear o3
    have a_h5 := Ke.a r_h5
    obtain ⟨W6, HW6, b6, y6, hS6, r_x6⟩ := Ke.l1 W5 #[.int .i64 h.n, .string h.r] 25
    have z6 := b6.size
    have B6 := Ke.b B5 b6
    have r_h6 := Ke.r r_h5 b6
    have c_h6 := Ke.c r_h6
    have c_x6 := Ke.c r_x6
    clear r_h5 c_h5
    have f_d6 : Hid (Odt W6 w.heap.size W1.heap.size (.slice a8 R.length c8) R) := Odt.later f_d5.out b6
    have f_m6 : Hid (Odt W6 W4.heap.size W5.heap.size (.slice a3 R.length c3) R) := Odt.later f_m5.out b6
    clear f_d5 f_m5
    go_wp2_with fail
    rw [HW6.out]
    clear a_h5
    refine (qe W6 B6.out).mono ?_
    rintro e W7 ⟨t, rfl, htz, b7⟩
    clear qe
    have z7 := b7.size
    have B7 := Ke.b B6 b7
    have r_h7 := Ke.r r_h6 b7
    have r_x7 := Ke.r r_x6 b7
    have c_h7 := Ke.c r_h7
    have c_x7 := Ke.c r_x7
    clear r_h6 c_h6 r_x6 c_x6
    have f_d7 : Hid (Odt W7 w.heap.size W1.heap.size (.slice a8 R.length c8) R) := Odt.later f_d6.out b7
    have f_m7 : Hid (Odt W7 W4.heap.size W5.heap.size (.slice a3 R.length c3) R) := Odt.later f_m6.out b7
    clear f_d6 f_m6
    obtain ⟨y, n, is, hp⟩ : ∃ y n is, parse t = (y, n, is) := ⟨_, _, _, rfl⟩
    have q4 := iP W7 B7.out t htz
    have q5 : ∀ W, _ := fun W => parse_spec W t (by omega)
    rw [hp] at q4
    simp only [hp] at q5
    have HP : Hid (parse t = (y, n, is)) := hp
    simp only at q4
    clear hp
    go_wp2_with fail
    refine q4.mono ?_
    rintro e W8 ⟨v4, rfl, o4, b8⟩
    obtain ⟨a4, c4, rfl⟩ := Od.slice o4
    clear q4
    have z8 := b8.size
    have B8 := Ke.b B7 b8
    have r_h8 := Ke.r r_h7 b8
    have r_x8 := Ke.r r_x7 b8
    have c_h8 := Ke.c r_h8
    have c_x8 := Ke.c r_x8
    clear r_h7 c_h7 r_x7 c_x7
    have f_d8 : Hid (Odt W8 w.heap.size W1.heap.size (.slice a8 R.length c8) R) := Odt.later f_d7.out b8
    have f_m8 : Hid (Odt W8 W4.heap.size W5.heap.size (.slice a3 R.length c3) R) := Odt.later f_m7.out b8
    clear f_d7 f_m7
    have f_n8 : Hid (Odt W8 W7.heap.size W8.heap.size (.slice a4 n.length c4) n) := ⟨o4, Nat.le_refl _⟩
    clear o4
    have a_h8 := Ke.a r_h8
    have a_x8 := Ke.a r_x8
    obtain ⟨W9, HW9, b9, y9, hS9, r_y9⟩ := Ke.l1 W8 #[.int .i64 y.n, .string y.r] 25
    have z9 := b9.size
    have B9 := Ke.b B8 b9
    have r_h9 := Ke.r r_h8 b9
    have r_x9 := Ke.r r_x8 b9
    have c_h9 := Ke.c r_h9
    have c_x9 := Ke.c r_x9
    have c_y9 := Ke.c r_y9
    clear r_h8 c_h8 r_x8 c_x8
    have f_d9 : Hid (Odt W9 w.heap.size W1.heap.size (.slice a8 R.length c8) R) := Odt.later f_d8.out b9
    have f_m9 : Hid (Odt W9 W4.heap.size W5.heap.size (.slice a3 R.length c3) R) := Odt.later f_m8.out b9
    have f_n9 : Hid (Odt W9 W7.heap.size W8.heap.size (.slice a4 n.length c4) n) := Odt.later f_n8.out b9
    clear f_d8 f_m8 f_n8
    go_wp2_with fail
    rw [HW9.out]
    clear a_h8 a_x8
    refine (q5 _).mono ?_
    rintro e W10 ⟨v5, rfl, o5, b10⟩
    clear q5 o5
    have z10 := b10.size
    have B10 := Ke.b B9 b10
    have r_h10 := Ke.r r_h9 b10
    have r_x10 := Ke.r r_x9 b10
    have r_y10 := Ke.r r_y9 b10
    have c_h10 := Ke.c r_h10
    have c_x10 := Ke.c r_x10
    have c_y10 := Ke.c r_y10
    clear r_h9 c_h9 r_x9 c_x9 r_y9 c_y9
    have f_d10 : Hid (Odt W10 w.heap.size W1.heap.size (.slice a8 R.length c8) R) := Odt.later f_d9.out b10
    have f_m10 : Hid (Odt W10 W4.heap.size W5.heap.size (.slice a3 R.length c3) R) := Odt.later f_m9.out b10
    have f_n10 : Hid (Odt W10 W7.heap.size W8.heap.size (.slice a4 n.length c4) n) := Odt.later f_n9.out b10
    clear f_d9 f_m9 f_n9
    have a_h10 := Ke.a r_h10
    have a_x10 := Ke.a r_x10
    have a_y10 := Ke.a r_y10
    obtain ⟨W11, HW11, b11, y11, hS11, r_z11⟩ := Ke.l1 W10 #[.int .i64 y.n, .string y.r] 25
    have z11 := b11.size
    have B11 := Ke.b B10 b11
    have r_h11 := Ke.r r_h10 b11
    have r_x11 := Ke.r r_x10 b11
    have r_y11 := Ke.r r_y10 b11
    have c_h11 := Ke.c r_h11
    have c_x11 := Ke.c r_x11
    have c_y11 := Ke.c r_y11
    have c_z11 := Ke.c r_z11
    clear r_h10 c_h10 r_x10 c_x10 r_y10 c_y10
    have f_d11 : Hid (Odt W11 w.heap.size W1.heap.size (.slice a8 R.length c8) R) := Odt.later f_d10.out b11
    have f_m11 : Hid (Odt W11 W4.heap.size W5.heap.size (.slice a3 R.length c3) R) := Odt.later f_m10.out b11
    have f_n11 : Hid (Odt W11 W7.heap.size W8.heap.size (.slice a4 n.length c4) n) := Odt.later f_n10.out b11
    clear f_d10 f_m10 f_n10
    have q6 := same_needs W11 (.slice a3 R.length c3) (.slice a8 R.length c8) R f_m11.out.1.sd f_d11.out.1.sd (by omega)
    have ne : (is == is) = true := by simp
    go_wp2_with (first | (rw [HW11.out]; refine wpList_load_row rfl 25 _ rfl (W5.heap.size) rfl 25 (hc h) (0, 0) _ r_x11.out Tryz.underlying25 rfl (sizeH _) ?_) | (refine wpList_load_row rfl 25 _ rfl (W5.heap.size) rfl 25 (hc h) (0, 0) _ r_x11.out Tryz.underlying25 rfl (sizeH _) ?_) | (refine wpList_load_row rfl 25 _ rfl (W1.heap.size) rfl 25 (hc h) (0, 0) _ r_h11.out Tryz.underlying25 rfl (sizeH _) ?_))
    rw [HW11.out]
    clear a_h10 a_x10 a_y10
    refine q6.mono ?_
    rintro e W12 ⟨rfl, b12⟩
    clear q6
    have z12 := b12.size
    have B12 := Ke.b B11 b12
    have r_h12 := Ke.r r_h11 b12
    have r_x12 := Ke.r r_x11 b12
    have r_y12 := Ke.r r_y11 b12
    have r_z12 := Ke.r r_z11 b12
    have c_h12 := Ke.c r_h12
    have c_x12 := Ke.c r_x12
    have c_y12 := Ke.c r_y12
    have c_z12 := Ke.c r_z12
    clear r_h11 c_h11 r_x11 c_x11 r_y11 c_y11 r_z11 c_z11
    have f_d12 : Hid (Odt W12 w.heap.size W1.heap.size (.slice a8 R.length c8) R) := Odt.later f_d11.out b12
    have f_m12 : Hid (Odt W12 W4.heap.size W5.heap.size (.slice a3 R.length c3) R) := Odt.later f_m11.out b12
    have f_n12 : Hid (Odt W12 W7.heap.size W8.heap.size (.slice a4 n.length c4) n) := Odt.later f_n11.out b12
    clear f_d11 f_m11 f_n11
    cases is
    · go_wp2
      go_ret
      exact ⟨rfl, B12.out⟩
    · obtain ⟨s1, s2, s3⟩ := parse_sz HP.out
      have hlt := ((parse_iff t y n).1 HP.out).1
      have q7 := iL W12 B12.out y (.slice a4 n.length c4) n f_n12.out.1.sd (by omega) (by omega) (fun x hx => by have := s3 x hx; omega)
      rw [hlt] at q7
      clear hlt s1 s2 s3
      go_wp2_with (refine wpList_load_row rfl 25 _ rfl (W8.heap.size) rfl 25 (hc y) (0, 0) _ r_y12.out Tryz.underlying25 rfl (sizeH _) ?_)
      refine q7.mono ?_
      rintro e W13 ⟨rfl, b13⟩
      clear q7
      have z13 := b13.size
      have B13 := Ke.b B12 b13
      have r_h13 := Ke.r r_h12 b13
      have r_x13 := Ke.r r_x12 b13
      have r_y13 := Ke.r r_y12 b13
      have r_z13 := Ke.r r_z12 b13
      have c_h13 := Ke.c r_h13
      have c_x13 := Ke.c r_x13
      have c_y13 := Ke.c r_y13
      have c_z13 := Ke.c r_z13
      clear r_h12 c_h12 r_x12 c_x12 r_y12 c_y12 r_z12 c_z12
      have f_d13 : Hid (Odt W13 w.heap.size W1.heap.size (.slice a8 R.length c8) R) := Odt.later f_d12.out b13
      have f_m13 : Hid (Odt W13 W4.heap.size W5.heap.size (.slice a3 R.length c3) R) := Odt.later f_m12.out b13
      have f_n13 : Hid (Odt W13 W7.heap.size W8.heap.size (.slice a4 n.length c4) n) := Odt.later f_n12.out b13
      clear f_d12 f_m12 f_n12
      go_wp2
      go_ret
      exact ⟨rfl, B13.out⟩

end Go.Proofs.YtbopliahafkecaaGreatDoor.Lk
