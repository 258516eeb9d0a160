/- Chapter 11, what a drawn log, table, head and texts are in memory (DrawExtend), and what keeps that; plain facts of worlds. -/
import Derived.Test.YtccnhhdcdamgmaaDoorLgD
namespace Go.Proofs.YtccnhhdcdamgmaaDoor.Lg
open Go.RowKit Go.Proofs.YtccnhhdcdamgmaaDoor.Mem Go.Proofs.YtccnhhdcdamgmaaDoor.Laws Go.Proofs.YtccnhhdcdamgmaaDoor.Bytes Go.Proofs.YtccnhhdcdamgmaaDoor.Sha Go.Proofs.YtccnhhdcdamgmaaDoor.Tr Go.Proofs.YtccnhhdcdamgmaaDoor.Draw Go.Proofs.YtccnhhdcdamgmaaDoor.He
set_option linter.unusedVariables false
set_option linter.unusedSimpArgs false

/-- what is owned stays where its own block stays -/
theorem stayN {n m : Nat} {w w' : World} {lo : Nat} {e : TypeId} {v : Value} {cs : List Value} (h : On n w lo w.heap.size e v m cs) (hs : w.heap.size ≤ w'.heap.size) (hk : ∀ k, k < w.heap.size → v.ownBlock = some k → w'.heap[k]? = w.heap[k]?) : On n w' lo w'.heap.size e v m cs := by
  obtain ⟨⟨h1, h2⟩, h3⟩ := h
  refine ⟨⟨h1, ?_⟩, fun g hg => Nat.lt_of_lt_of_le (h3 g hg) hs⟩
  rcases h2 with h2 | ⟨g, cap, cur, rfl, hb, hg, r⟩
  · exact .inl h2
  · exact .inr ⟨g, cap, cur, rfl, hb, by rw [hk g (h3 g rfl) rfl]; exact hg, r⟩
theorem stay1 {w w' : World} {lo : Nat} {e : TypeId} {v : Value} {cs : List Value} (h : Own w lo w.heap.size e v cs) (hs : w.heap.size ≤ w'.heap.size) (hk : ∀ k, k < w.heap.size → v.ownBlock = some k → w'.heap[k]? = w.heap[k]?) : Own w' lo w'.heap.size e v cs := stayN h hs hk
theorem neN {n m : Nat} {w : World} {lo hi g : Nat} {e t : TypeId} {v : Value} {cs : List Value} {cs' : Array Value} {fr : Nat × Nat} (h : On n w lo hi e v m cs) (hr : w.heap[g]? = some (.cells cs' t fr)) (ht : t ≠ e) : v.ownBlock ≠ some g := by
  intro hv
  obtain ⟨⟨h1, h2⟩, h3⟩ := h
  rcases h2 with ⟨rfl, _⟩ | ⟨g', cap, cur, rfl, hb, hg, r⟩
  · simp [Value.ownBlock] at hv
  · simp [Value.ownBlock] at hv
    subst hv
    rw [hg] at hr
    simp at hr
    exact ht hr.2.1.symm
theorem lowN {n m : Nat} {w : World} {lo hi g : Nat} {e : TypeId} {v : Value} {cs : List Value} (h : On n w lo hi e v m cs) (hg : g < lo) : v.ownBlock ≠ some g := by
  intro hv
  obtain ⟨⟨h1, h2⟩, h3⟩ := h
  rcases h2 with ⟨rfl, _⟩ | ⟨g', cap, cur, rfl, hb, _⟩
  · simp [Value.ownBlock] at hv
  · simp [Value.ownBlock] at hv
    omega
/-- two that are owned, of unlike types, lie apart -/
theorem twoN {n m n' m' : Nat} {w : World} {lo hi lo' hi' k : Nat} {e e' : TypeId} {v v' : Value} {cs cs' : List Value} (h : On n w lo hi e v m cs) (h' : On n' w lo' hi' e' v' m' cs') (he : e ≠ e') (hk : v.ownBlock = some k) : v'.ownBlock ≠ some k := by
  obtain ⟨⟨h1, h2⟩, h3⟩ := h
  rcases h2 with ⟨rfl, _⟩ | ⟨g, cap, cur, rfl, hb, hg, r⟩
  · simp [Value.ownBlock] at hk
  · simp [Value.ownBlock] at hk
    subst hk
    exact neN h' hg he
/-- a row of two cells is not what two or more heads lie in -/
theorem bigN {m : Nat} {w : World} {lo hi g : Nat} {e t : TypeId} {v : Value} {cs : List Value} {cs' : Array Value} {fr : Nat × Nat} (h : On 2 w lo hi e v m cs) (hm : 2 ≤ m) (hr : w.heap[g]? = some (.cells cs' t fr)) (h2 : cs'.size = 2) : v.ownBlock ≠ some g := by
  intro hv
  obtain ⟨⟨h1, h2'⟩, h3⟩ := h
  rcases h2' with ⟨rfl, h0⟩ | ⟨g', cap, cur, rfl, hb, hg, hc, _, hcs, _⟩
  · omega
  · simp [Value.ownBlock] at hv
    subst hv
    rw [hg] at hr
    simp at hr
    obtain ⟨rfl, _⟩ := hr
    omega

/-- what DrawExtend has: a log, a table, a head, texts; W: the world in which the cursor was made -/
structure Dx (W : World) (vb : Value) (xs : List Int) (b0 gl gh : Nat) (v9 : Value) (l : List ByteArray) (hd : Hd) (vt : Value) (t : List Hd) (h : Hd) (vx : Value) (x : List ByteArray) (w : World) : Prop where
  drawn : Drawn W W W.heap.size vb xs w
  low : b0 + 1 < W.heap.size
  gl1 : W.heap.size < gl
  gh1 : W.heap.size < gh
  glh : gl ≠ gh
  r0 : w.heap[b0]? = some (.cells (lc (.slice none 0 0) hd0) 28 (0, 0))
  r1 : w.heap[b0 + 1]? = some (.cells (hc hd0) 26 (0, 0))
  rl : w.heap[gl]? = some (.cells (lc v9 hd) 28 (0, 0))
  rh : w.heap[gh]? = some (.cells (hc h) 26 (0, 0))
  ol : Own w W.heap.size w.heap.size 9 v9 (ss l)
  ot : Oh w W.heap.size w.heap.size vt t
  ox : Own w W.heap.size w.heap.size 9 vx (ss x)
  ne : vt.ownBlock ≠ some gh
  t1 : 1 ≤ t.length
  nx : ∀ k, vx.ownBlock = some k → v9.ownBlock ≠ some k

theorem Dx.row {W : World} {vb : Value} {xs : List Int} {w : World} (d : Drawn W W W.heap.size vb xs w) : ∃ cs, w.heap[W.heap.size]? = some (.cells cs 103 (0, 0)) := by
  obtain ⟨i, h, hr, _⟩ := d.cur
  exact ⟨_, hr⟩

theorem Dx.draw {W : World} {vb : Value} {xs : List Int} {b0 gl gh : Nat} {v9 : Value} {l : List ByteArray} {hd : Hd} {vt : Value} {t : List Hd} {h : Hd} {vx : Value} {x : List ByteArray} {w w' : World} (D : Dx W vb xs b0 gl gh v9 l hd vt t h vx x w) (d : Drawn W w W.heap.size vb xs w') : Dx W vb xs b0 gl gh v9 l hd vt t h vx x w' := by
  have hl := D.low
  have h1 := D.gl1
  have h2 := D.gh1
  obtain ⟨cs, hr⟩ := Dx.row D.drawn
  have hb : ∀ {k : Nat} {v : Value}, k < w.heap.size → v.ownBlock ≠ some W.heap.size → v.ownBlock = some k → w'.heap[k]? = w.heap[k]? := fun {k v} hk hn hv => d.apart.block k hk (by rintro ⟨q1, q2⟩; exact hn (by rw [hv]; congr 1; omega))
  refine ⟨D.drawn.and d, hl, h1, h2, D.glh, drawn_row D.r0 d (by omega), drawn_row D.r1 d (by omega), drawn_row D.rl d (by omega), drawn_row D.rh d (by omega), ?_, ?_, ?_, D.ne, D.t1, D.nx⟩
  · exact stay1 D.ol d.apart.size (fun k hk hv => hb hk (neN (n := 1) D.ol hr (by decide)) hv)
  · exact stayN D.ot d.apart.size (fun k hk hv => hb hk (neN D.ot hr (by decide)) hv)
  · exact stay1 D.ox d.apart.size (fun k hk hv => hb hk (neN (n := 1) D.ox hr (by decide)) hv)

/-- a new block -/
theorem Dx.alloc {W : World} {vb : Value} {xs : List Int} {b0 gl gh : Nat} {v9 : Value} {l : List ByteArray} {hd : Hd} {vt : Value} {t : List Hd} {h : Hd} {vx : Value} {x : List ByteArray} {w : World} (D : Dx W vb xs b0 gl gh v9 l hd vt t h vx x w) (o : Obj) : Dx W vb xs b0 gl gh v9 l hd vt t h vx x (w.alloc o) := by
  have hz : w.heap.size ≤ (w.alloc o).heap.size := by simp
  have hW := D.drawn.apart.size
  refine ⟨?_, D.low, D.gl1, D.gh1, D.glh, ?_, ?_, ?_, ?_, stay1 D.ol hz (fun k hk _ => heap_alloc_old _ _ hk), stayN D.ot hz (fun k hk _ => heap_alloc_old _ _ hk), stay1 D.ox hz (fun k hk _ => heap_alloc_old _ _ hk), D.ne, D.t1, D.nx⟩
  · exact ⟨Cur.alloc D.drawn.cur _, D.drawn.apart.grow ((Below.refl _ _).alloc (Nat.le_refl _) _), D.drawn.below.alloc hW _⟩
  · exact rowKeep D.r0 ((Below.refl _ _).alloc (Nat.le_refl _) _)
  · exact rowKeep D.r1 ((Below.refl _ _).alloc (Nat.le_refl _) _)
  · exact rowKeep D.rl ((Below.refl _ _).alloc (Nat.le_refl _) _)
  · exact rowKeep D.rh ((Below.refl _ _).alloc (Nat.le_refl _) _)

/-- one head more -/
theorem Dx.app {W : World} {vb : Value} {xs : List Int} {b0 gl gh : Nat} {v9 : Value} {l : List ByteArray} {hd : Hd} {vt : Value} {t : List Hd} {h : Hd} {vx : Value} {x : List ByteArray} {w w' : World} {vt' : Value} {h' : Hd} (D : Dx W vb xs b0 gl gh v9 l hd vt t h vx x w)
    (o : On 2 w' W.heap.size w'.heap.size 26 vt' (t.length + 1) (hds t ++ h'.cs)) (b : Below W.heap.size w w') (g : w.grownBy w' vt.ownBlock) : Dx W vb xs b0 gl gh v9 l hd vt' (t ++ [h']) h vx x w' := by
  have hl := D.low
  have h1 := D.gl1
  have h2 := D.gh1
  have t1 := D.t1
  obtain ⟨cs, hr⟩ := Dx.row D.drawn
  have row : ∀ {k : Nat} {ob : Obj}, w.heap[k]? = some ob → vt.ownBlock ≠ some k → w'.heap[k]? = some ob := fun {k ob} hk hn => (g.block k (Array.getElem?_eq_some_iff.1 hk).1 (fun q => hn q.symm)).trans hk
  have rh' := row D.rh D.ne
  refine ⟨⟨?_, D.drawn.apart.on b, D.drawn.below.trans b⟩, hl, h1, h2, D.glh, row D.r0 (lowN D.ot (by omega)), row D.r1 (lowN D.ot (by omega)), row D.rl (neN D.ot D.rl (by decide)), rh', ?_, Oh.snoc o, ?_, bigN o (by omega) rh' rfl, by simp, D.nx⟩
  · obtain ⟨i, q, hq, hi⟩ := D.drawn.cur
    exact ⟨i, q, row hq (neN D.ot hq (by decide)), hi⟩
  · exact stay1 D.ol g.size (fun k hk hv => g.block k hk (fun q => twoN (n := 1) D.ol D.ot (by decide) hv q.symm))
  · exact stay1 D.ox g.size (fun k hk hv => g.block k hk (fun q => twoN (n := 1) D.ox D.ot (by decide) hv q.symm))

/-- another log -/
theorem Dx.setL {W : World} {vb : Value} {xs : List Int} {b0 gl gh : Nat} {v9 : Value} {l : List ByteArray} {hd : Hd} {vt : Value} {t : List Hd} {h : Hd} {vx : Value} {x : List ByteArray} {w : World} {v' : Value} {l' : List ByteArray} {hd' : Hd} (D : Dx W vb xs b0 gl gh v9 l hd vt t h vx x w)
    (o : Own w W.heap.size w.heap.size 9 v' (ss l')) (nx : ∀ k, vx.ownBlock = some k → v'.ownBlock ≠ some k) : Dx W vb xs b0 gl gh v' l' hd' vt t h vx x (w.setRow gl (lc v' hd')) := by
  have hl := D.low
  have h1 := D.gl1
  have h2 := D.gh1
  have h3 := D.glh
  have hz : w.heap.size ≤ (w.setRow gl (lc v' hd')).heap.size := by rw [size_setRow]; exact Nat.le_refl _
  have oth : ∀ {k : Nat}, k ≠ gl → (w.setRow gl (lc v' hd')).heap[k]? = w.heap[k]? := fun {k} hk => setRow_other _ _ _ _ hk
  have b : Below W.heap.size w (w.setRow gl (lc v' hd')) := below_setRow (Below.refl _ _) (by omega) _
  have nb : ∀ {n m : Nat} {e : TypeId} {v : Value} {cs : List Value}, On n w W.heap.size w.heap.size e v m cs → 28 ≠ e → ∀ k, k < w.heap.size → v.ownBlock = some k → (w.setRow gl (lc v' hd')).heap[k]? = w.heap[k]? := fun o he k hk hv => oth (fun q => neN o D.rl he (by rw [hv, q]))
  refine ⟨⟨?_, D.drawn.apart.on b, D.drawn.below.trans b⟩, hl, h1, h2, h3, (oth (by omega)).trans D.r0, (oth (by omega)).trans D.r1, setRow_heap _ _ _ _ _ _ D.rl, (oth (fun q => h3 q.symm)).trans D.rh, stay1 o hz (nb (n := 1) o (by decide)), stayN D.ot hz (nb D.ot (by decide)), stay1 D.ox hz (nb (n := 1) D.ox (by decide)), D.ne, D.t1, nx⟩
  obtain ⟨i, q, hq, hi⟩ := D.drawn.cur
  exact ⟨i, q, (oth (by omega)).trans hq, hi⟩

/-- another head -/
theorem Dx.setH {W : World} {vb : Value} {xs : List Int} {b0 gl gh : Nat} {v9 : Value} {l : List ByteArray} {hd : Hd} {vt : Value} {t : List Hd} {h : Hd} {vx : Value} {x : List ByteArray} {w : World} {h' : Hd} (D : Dx W vb xs b0 gl gh v9 l hd vt t h vx x w) : Dx W vb xs b0 gl gh v9 l hd vt t h' vx x (w.setRow gh (hc h')) := by
  have hl := D.low
  have h1 := D.gl1
  have h2 := D.gh1
  have h3 := D.glh
  have hz : w.heap.size ≤ (w.setRow gh (hc h')).heap.size := by rw [size_setRow]; exact Nat.le_refl _
  have oth : ∀ {k : Nat}, k ≠ gh → (w.setRow gh (hc h')).heap[k]? = w.heap[k]? := fun {k} hk => setRow_other _ _ _ _ hk
  have b : Below W.heap.size w (w.setRow gh (hc h')) := below_setRow (Below.refl _ _) (by omega) _
  have nb : ∀ {n m : Nat} {e : TypeId} {v : Value} {cs : List Value}, On n w W.heap.size w.heap.size e v m cs → 26 ≠ e → ∀ k, k < w.heap.size → v.ownBlock = some k → (w.setRow gh (hc h')).heap[k]? = w.heap[k]? := fun o he k hk hv => oth (fun q => neN o D.rh he (by rw [hv, q]))
  refine ⟨⟨?_, D.drawn.apart.on b, D.drawn.below.trans b⟩, hl, h1, h2, h3, (oth (by omega)).trans D.r0, (oth (by omega)).trans D.r1, (oth h3).trans D.rl, setRow_heap _ _ _ _ _ _ D.rh, stay1 D.ol hz (nb (n := 1) D.ol (by decide)), stayN D.ot hz (fun k hk hv => oth (fun q => D.ne (by rw [hv, q]))), stay1 D.ox hz (nb (n := 1) D.ox (by decide)), D.ne, D.t1, D.nx⟩
  obtain ⟨i, q, hq, hi⟩ := D.drawn.cur
  exact ⟨i, q, (oth (by omega)).trans hq, hi⟩

/-- another table; other texts -/
theorem Dx.setT {W : World} {vb : Value} {xs : List Int} {b0 gl gh : Nat} {v9 : Value} {l : List ByteArray} {hd : Hd} {vt : Value} {t : List Hd} {h : Hd} {vx : Value} {x : List ByteArray} {w : World} {vt' : Value} {t' : List Hd} (D : Dx W vb xs b0 gl gh v9 l hd vt t h vx x w) (o : Oh w W.heap.size w.heap.size vt' t') (ne : vt'.ownBlock ≠ some gh) (t1 : 1 ≤ t'.length) : Dx W vb xs b0 gl gh v9 l hd vt' t' h vx x w :=
  ⟨D.drawn, D.low, D.gl1, D.gh1, D.glh, D.r0, D.r1, D.rl, D.rh, D.ol, o, D.ox, ne, t1, D.nx⟩
theorem Dx.setX {W : World} {vb : Value} {xs : List Int} {b0 gl gh : Nat} {v9 : Value} {l : List ByteArray} {hd : Hd} {vt : Value} {t : List Hd} {h : Hd} {vx : Value} {x : List ByteArray} {w : World} {vx' : Value} {x' : List ByteArray} (D : Dx W vb xs b0 gl gh v9 l hd vt t h vx x w) (o : Own w W.heap.size w.heap.size 9 vx' (ss x')) (nx : ∀ k, vx'.ownBlock = some k → v9.ownBlock ≠ some k) : Dx W vb xs b0 gl gh v9 l hd vt t h vx' x' w :=
  ⟨D.drawn, D.low, D.gl1, D.gh1, D.glh, D.r0, D.r1, D.rl, D.rh, D.ol, D.ot, o, D.ne, D.t1, nx⟩

/-- a text is bent -/
theorem Dx.bent {W : World} {vb : Value} {xs : List Int} {b0 gl gh : Nat} {v9 : Value} {l : List ByteArray} {hd : Hd} {vt : Value} {t : List Hd} {h : Hd} {x : List ByteArray} {w : World} {g n cap : Nat} (D : Dx W vb xs b0 gl gh v9 l hd vt t h (.slice (some ⟨g, 0, none⟩) n cap) x w) (k : Nat) (s : ByteArray) :
    Dx W vb xs b0 gl gh v9 l hd vt t h (.slice (some ⟨g, 0, none⟩) n cap) (x.set k s) (w.setCell ⟨g, k, none⟩ (.string s)) := by
  have hl := D.low
  have h1 := D.gl1
  have h2 := D.gh1
  have hz : w.heap.size ≤ (w.setCell ⟨g, k, none⟩ (.string s)).heap.size := by simp [World.setCell]
  have oth : ∀ {j : Nat}, j ≠ g → (w.setCell ⟨g, k, none⟩ (.string s)).heap[j]? = w.heap[j]? := fun {j} hj => Below.heap_setCell _ _ _ _ (by exact hj)
  have hgW : W.heap.size ≤ g := by
    have h0 := lowN (g := g) (n := 1) D.ox
    rcases Nat.lt_or_ge g W.heap.size with q | q
    · exact absurd rfl (h0 q)
    · exact q
  have b : Below W.heap.size w (w.setCell ⟨g, k, none⟩ (.string s)) := (Below.refl _ _).setCell (p := ⟨g, k, none⟩) hgW _
  have nrow : ∀ {j : Nat} {cs : Array Value} {ty : TypeId}, w.heap[j]? = some (.cells cs ty (0, 0)) → ty ≠ 9 → j ≠ g := fun {j cs ty} hj ht q => neN (n := 1) D.ox hj ht (by rw [q]; rfl)
  obtain ⟨i, q, hq, hi⟩ := D.drawn.cur
  refine ⟨⟨⟨i, q, (oth (nrow hq (by decide))).trans hq, hi⟩, D.drawn.apart.on b, D.drawn.below.trans b⟩, hl, h1, h2, D.glh, (oth (nrow D.r0 (by decide))).trans D.r0, (oth (nrow D.r1 (by decide))).trans D.r1, (oth (nrow D.rl (by decide))).trans D.rl, (oth (nrow D.rh (by decide))).trans D.rh, ?_, ?_, ?_, D.ne, D.t1, D.nx⟩
  · exact stay1 D.ol hz (fun j hj hv => oth (fun q => D.nx j (by rw [q]; rfl) hv))
  · exact stayN D.ot hz (fun j hj hv => oth (fun q => twoN D.ot (n' := 1) D.ox (by decide) hv (by rw [q]; rfl)))
  · have ho := D.ox
    have hn : n = x.length := by
      have := ho.1.2
      rcases this with ⟨h', _⟩ | ⟨g', cap', cur, h', _⟩
      · simp at h'
      · simp at h'
        rw [h'.2.1, ss_len]
    have ho1 := ho.1
    rw [ss_len, ← hn] at ho1
    have hs := (ho1.stored k (.string s)).1
    have e : (ss x).set k (.string s) = ss (x.set k s) := by simp [ss, List.map_set]
    rw [e] at hs
    refine ⟨?_, fun g' hg' => ?_⟩
    · rw [ss_len, List.length_set, ← hn]
      exact hs
    · have := ho.2 g' hg'
      omega

end Go.Proofs.YtccnhhdcdamgmaaDoor.Lg
